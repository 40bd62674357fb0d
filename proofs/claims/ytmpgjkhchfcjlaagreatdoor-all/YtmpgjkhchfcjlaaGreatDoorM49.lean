import Derived.Test.YtmpgjkhchfcjlaaGreatDoorM46
import Derived.Test.YtmpgjkhchfcjlaaGreatDoorM47
namespace Go.Proofs.YtmpgjkhchfcjlaaGreatDoor
open Go.RowKit
set_option maxRecDepth 100000
set_option maxHeartbeats 4000000
def De (c n:Int):Int:=if c<0 then -((c+1).tmod n)else c%n
theorem Bc (c n:Int)(hn:1≤n):0≤De c n∧De c n<n:=by
 unfold De;by_cases h:c<0
 ·rw[if_pos h];have e: -((c+1).tmod n)=(-(c+1))%n:=by rw[←Int.tmod_eq_emod_of_nonneg (by omega),Int.neg_tmod]
  rw[e]
  exact⟨Int.emod_nonneg _ (by omega),Int.emod_lt_of_pos _ (by omega)⟩
 ·rw[if_neg h]
  exact⟨Int.emod_nonneg _ (by omega),Int.emod_lt_of_pos _ (by omega)⟩
theorem mo (c n:Int)(h1: -9223372036854775808≤c)(h2:c≤9223372036854775807)(hn:1≤n)(hn':n≤100000000000000)(w:World):Calls Tryz.prog 13 #[.int .i64 c,.int .i64 n] w fun e w'=>e=.returned (.int .i64 (De c n))∧w'=w:=by
 unfold De;by_cases h:c<0
 ·rw[if_pos h];go_in;go_wp2;go_ret
  exact⟨rfl,rfl⟩
 ·rw[if_neg h];go_in;go_wp2;go_ret
  exact⟨rfl,rfl⟩
structure A5 (B:Nat→Prop) (w:World) (pp n f:Int) (cv:Value) (s t:ByteArray) (sd:Int) (fv:Value):Prop where
 code:∃L c,iD B w cv L c
 text:∃l,pR B w fv l
 p0: -9223372036854775808≤pp
 p1:pp≤9223372036854775807
 n0: -9223372036854775808≤n
 n1:n≤9223372036854775807
 d0:0≤sd
 d1:sd≤18446744073709551615
 s1:s.size≤140737488355328
 t1:t.size≤9223372036854775807
theorem iD.below {B:Nat→Prop}{w w':World}{v:Value}{L:Nat}{c:Nat→Int}(h:iD B w v L c)(b:Below w.heap.size w w'):iD B w' v L c:=⟨h.cR.below b,h.byte,h.most,fun h0 g e=>⟨(h.out h0 g e).1,Nat.lt_of_lt_of_le (h.out h0 g e).2 b.size⟩⟩
theorem pR.below {B:Nat→Prop}{w w':World}{v:Value}{l:List ByteArray}(h:pR B w v l)(b:Below w.heap.size w w'):pR B w' v l:=⟨h.tl.below b,h.size,h.most,fun h0 g e=>⟨(h.out h0 g e).1,Nat.lt_of_lt_of_le (h.out h0 g e).2 b.size⟩⟩
theorem bC.lift {w w0 w':World}{A M L T:Nat}{col:Nat→Nat}{e:Ending}(h:bC A M L T col w0 e w')(b:Below w.heap.size w w0):bC A M L T col w e w':=by
 obtain⟨h1,h2,c',ps',h3,h4⟩:=h
 exact⟨h1,(Fr.below b).trans (h2.wide (fun _ c=>Or.inl c)),c',ps',h3,fun k hk=>h4 k (Nat.lt_of_lt_of_le hk b.size)⟩
structure nr (w:World) (A M L T:Nat) (col:Nat→Nat) (ps:List PP):Prop where
 ww:WW w A M L T col ps
 l:(L+4)*24≤140737488355328
 ps:(ps.length+1)*16≤140737488355328
 t0:200000≤T
 t1:T≤4611686018427380000
theorem nr.below {w w':World}{A M L T:Nat}{col:Nat→Nat}{ps:List PP}(h:nr w A M L T col ps)(b:Below w.heap.size w w'):nr w' A M L T col ps:=⟨h.ww.below b,h.l,h.ps,h.t0,h.t1⟩
def Mc (i:Nat):Int:=([2,1,97,12,15,9,19,7,0,0]:List Int).getD i 0
theorem FM:∃i:TypeInfo,Tryz.prog.info? 43=some i∧i.size=9∧i.bytes=120∧∃z,i.zero=some z∧z.cells.size=9:=by
 have h:(Tryz.prog.info? 43).map (fun i=>(i.size,i.bytes,i.zero.map fun z=>z.cells.size))=some (9,120,some 9):=by kernel_rfl
 cases hi:Tryz.prog.info? 43 with
 |none=>rw [hi]at h;cases h
 |some i=>
  rw[hi]at h;simp only[Option.map_some,Option.some.injEq,Prod.mk.injEq,Option.map_eq_some_iff]at h
  obtain⟨h1,h2,z,h3,h4⟩:=h
  exact⟨i,rfl,h1,h2,z,h3,h4⟩
theorem uX (w:World)(G:Nat)(xs:Array Value)(hG:w.heap[G]?=some (.cells xs 43 (0,0)))(hx:xs.size=81)(a:Option Addr)(m c:Nat)(news:List Value)(hl:news.length=m*9)
  (hnews:∀ad,a=some ad→∀j u,news[j]?=some u→w.cell? (ad.add j)=some u)(hn:a=none→m=0)(hb:(9+m)*120≤140737488355328)(ty:TypeId):
  ∃G' c' w',(Builtin.append_ #[22,22] ty #[.slice (some ⟨G,0,none⟩) 9 9,.slice a m c]).run Tryz.prog w=.ok (.slice (some ⟨G',0,none⟩) (9+m) c') w'∧Below w.heap.size w w'∧
   (∀j u,(xs.toList++news)[j]?=some u→w'.cell? ⟨G',j,none⟩=some u)∧G'<w'.heap.size∧(9+m≤c'∧c'≤maxLen):=by
 obtain⟨i,hi,hs,hby,z,hz,hzs⟩:=FM
 have hlt:G<w.heap.size:=(Array.getElem?_eq_some_iff.1 hG).1;have hcur:∀j u,xs.toList[j]?=some u→w.cell? ⟨G,j,none⟩=some u:=fun j u hj=>by
  rw[cell_of_row _ _ _ _ _ _ hG];simpa using hj
 have hadd:∀j,(⟨G,0,none⟩:Addr).add j=⟨G,j,none⟩:=fun j=>by unfold Addr.add;split<;>simp_all
 by_cases hm:m=0
 ·subst hm;have hnil:=List.eq_nil_of_length_eq_zero (by simpa using hl);subst hnil
  refine⟨G,9,w,?_,Below.refl _ _,fun j u hj=>hcur j u (by simpa using hj),hlt,by omega,by unfold maxLen;omega⟩
  cases a with
  |none=>simp [Builtin.append_,run_underlying Tryz.underlying22,sizeOf,typeInfo,hi,Builtin.lenOf,Builtin.firstCells,storeCells]
  |some ad=>
   have hfc:=run_firstCells_some (P:=Tryz.prog) w i.size 0 ad 0 c [] (by simp) (fun j u hj=>by simp at hj);simp[Builtin.append_,run_underlying Tryz.underlying22,sizeOf,typeInfo,hi,Builtin.lenOf,hfc,storeCells]
 ·cases a with
  |none=>exact absurd (hn rfl) hm
  |some ad=>
   have hr:=run_append_grow (P:=Tryz.prog) w 22 ty 43 i z Tryz.underlying22 hi hz ⟨G,0,none⟩ 9 9 xs.toList (by rw[hs];simpa using hx) (fun j u hj=>by rw[hadd];exact hcur j u hj) ad m c news (by rw[hs];exact hl) (hnews ad rfl) (by omega) (by omega) (growslice_fits (by omega) (by rw[hby];exact hb))
   refine⟨_,_,_,hr,⟨rfl,rfl,rfl,by simp,fun k hk=>Below.heap_alloc w.drew _ k hk⟩,?_,by simp,grownCap_ge w (9+m) 9 43,grownCap_le_maxLen w (9+m) 9 43 (by unfold maxLen;omega)⟩
   intro j u hj;have hh:(w.drew.alloc (.cells (xs.toList.toArray++news.toArray++Builtin.zeroCells z.cells (grownCap w (9+m) 9 43-(9+m))) 43)).heap[w.heap.size]?=_:=heap_alloc_new w.drew _;rw[cell_of_row _ _ _ _ _ _ hh];rw[Array.getElem?_append_left]
   ·rw[List.append_toArray,List.getElem?_toArray];exact hj
   ·obtain⟨h1,_⟩:=List.getElem?_eq_some_iff.1 hj
    simpa using h1
structure FN (w w':World) (G c' m:Nat) (ys:List Value):Prop where
 below:Below w.heap.size w w'
 cell:∀j u,ys[j]?=some u→w'.cell? ⟨G,j,none⟩=some u
 lt:G<w'.heap.size
 room:9+m≤c'
 room':c'≤9223372036854775807
section
variable {w:World}
theorem mE {ops:Array Oper}{rest:List Oper}{o:Oper}{a:Act}{Q:Exit→Act→World→Prop}(hgd:o.guard=none)(s x:Operand)
  (ho:o.op=.call {callee:=.builtin .append,args:=#[s,x],argTypes:=#[22,22]})
  (G:Nat)(xs:Array Value)(hG:w.heap[G]?=some (.cells xs 43 (0,0)))(hx:xs.size=81)(ad:Option Addr)(m c:Nat)(news:List Value)(hl:news.length=m*9)
  (hnews:∀p,ad=some p→∀j u,news[j]?=some u→w.cell? (p.add j)=some u)(hn:ad=none→m=0)(hb:(9+m)*120≤140737488355328)
  (hs:a.eval s=.slice (some ⟨G,0,none⟩) 9 9)(hxx:a.eval x=.slice ad m c)
  (h:∀G' c' w',FN w w' G' c' m (xs.toList++news)→wpList Tryz.prog ops Q rest (a.put o.dst (.slice (some ⟨G',0,none⟩) (9+m) c')) w'):
  wpList Tryz.prog ops Q (o::rest) a w:=by
 refine wpList_plain hgd fun K hK=> ?_
 obtain⟨G',c',w',hr,h2,h3,h4,h5⟩:=uX w G xs hG hx ad m c news hl hnews hn hb o.type
 unfold Oper.wp execOp;simp only[ho,resolve,invoke,builtin,Sem.run_bind,Sem.run_pure,Result.andThen_ok,List.map_toArray,List.map_cons,List.map_nil,hs,hxx,hr];exact hK _ _ (h G' c' w' ⟨h2,h3,h4,h5.1,h5.2⟩)
end
structure Jj (w w':World):Prop where
 below:Below w.heap.size w w'
 size:w'.heap.size=w.heap.size+6
 row:w'.heap[w.heap.size+5]?=some (.cells (mV w.heap.size) 43 (0,0))
 code:∀k,k<4→w'.heap[w.heap.size+k]?=some (.cells Ea 5 (0,0))
 text:w'.heap[w.heap.size+4]?=some (.cells #[.string ⟨#[98]⟩] 9 (0,0))
theorem FO (w:World):Jj w (uf w):=by
 have z1:∀(v:World) (o:Obj),(v.alloc o).heap.size=v.heap.size+1:=fun v o=>by simp
 have old:∀(v:World) (o:Obj) (k:Nat),k<v.heap.size→(v.alloc o).heap[k]?=v.heap[k]?:=fun v o k hk=>Below.heap_alloc v o k hk
 have new:∀(v:World) (o:Obj) (k:Nat),k=v.heap.size→(v.alloc o).heap[k]?=some o:=fun v o k hk=>by rw[hk];exact heap_alloc_new v o
 unfold uf;generalize e1:w.alloc (.cells Ea 5)=w1;generalize e2:w1.alloc (.cells Ea 5)=w2;generalize e3:w2.alloc (.cells Ea 5)=w3;generalize e4:w3.alloc (.cells Ea 5)=w4;generalize e5:w4.alloc (.cells #[.string ⟨#[98]⟩] 9)=w5;generalize e6:w5.alloc (.cells (mV w.heap.size) 43)=w6;have s1:w1.heap.size=w.heap.size+1:=by rw[←e1];exact z1 _ _
 have s2:w2.heap.size=w.heap.size+2:=by rw[←e2,z1];omega
 have s3:w3.heap.size=w.heap.size+3:=by rw[←e3,z1];omega
 have s4:w4.heap.size=w.heap.size+4:=by rw[←e4,z1];omega
 have s5:w5.heap.size=w.heap.size+5:=by rw[←e5,z1];omega
 have s6:w6.heap.size=w.heap.size+6:=by rw[←e6,z1];omega
 refine⟨?_,s6,by rw[←e6];exact new _ _ _ (by omega),?_,by rw[←e6,old _ _ _ (by omega),←e5];exact new _ _ _ (by omega)⟩
 ·rw[←e6,←e5,←e4,←e3,←e2,←e1]
  exact((((((Below.refl _ w).alloc (Nat.le_refl _) _).alloc (by simp) _).alloc (by simp;omega) _).alloc (by simp;omega) _).alloc (by simp;omega) _).alloc (by simp;omega) _
 ·intro k hk;match k,hk with
  |0,_=>rw [←e6,old _ _ _ (by omega),←e5,old _ _ _ (by omega),←e4,old _ _ _ (by omega),←e3,old _ _ _ (by omega),←e2,old _ _ _ (by omega),←e1];exact new _ _ _ (by omega)
  |1,_=>rw [←e6,old _ _ _ (by omega),←e5,old _ _ _ (by omega),←e4,old _ _ _ (by omega),←e3,old _ _ _ (by omega),←e2];exact new _ _ _ (by omega)
  |2,_=>rw [←e6,old _ _ _ (by omega),←e5,old _ _ _ (by omega),←e4,old _ _ _ (by omega),←e3];exact new _ _ _ (by omega)
  |3,_=>rw [←e6,old _ _ _ (by omega),←e5,old _ _ _ (by omega),←e4];exact new _ _ _ (by omega)
  |k+4,hk=>omega
theorem rR {ops:Array Oper}{rest:List Oper}{o:Oper}{a:Act}{w:World}{Q:Exit→Act→World→Prop}(hgd:o.guard=none)(x:Operand)(ho:o.op=.load 43 x)
  (g q:Nat)(hx:a.eval x=.pointer (some ⟨g,q,none⟩))(cs:Array Value)(hs:cs.size=9)(hc:∀j,j<9→w.cell? ⟨g,q+j,none⟩=cs[j]?)
  (h:wpList Tryz.prog ops Q rest (a.put o.dst (.agg cs)) w):wpList Tryz.prog ops Q (o::rest) a w:=by
 refine wpList_plain hgd fun K hK=> ?_
 have hl:(loadCells ⟨g,q,none⟩ cs.toList.length).run Tryz.prog w=.ok cs.toList.toArray w:=
  run_loadCells_list (P:=Tryz.prog) w ⟨g,q,none⟩ cs.toList (fun j v hv=>by
   have hadd:(⟨g,q,none⟩:Addr).add j=⟨g,q+j,none⟩:=by unfold Addr.add;split<;>simp_all
   obtain⟨h1,_⟩:=List.getElem?_eq_some_iff.1 hv
   rw[hadd,hc j (by simp at h1;omega)];simpa using hv)
 obtain⟨i,hi,hsz,_,_⟩:=FM
 have hagg:(isAgg 43).run Tryz.prog w=.ok true w:=by
  unfold isAgg;rw[Sem.run_bind,run_underlying Tryz.underlying43 w];rfl
 have hv:(loadVar 43 ⟨g,q,none⟩).run Tryz.prog w=.ok (.agg cs) w:=by
  simp only[Array.length_toList,Array.toArray_toList]at hl;simp[loadVar,Sem.run_bind,hagg,sizeOf,typeInfo,hi,hsz,←hs,hl]
 unfold Oper.wp execOp;simp only[ho,hx,Instr.loadAt,Instr.sureAddr,Sem.run_bind,Sem.run_pure,Result.andThen_ok,hv];exact hK _ _ h
theorem A5.keep {B B':Nat→Prop}{w w':World}{pp n f:Int}{cv:Value}{s t:ByteArray}{sd:Int}{fv:Value}(h:A5 B w pp n f cv s t sd fv)(hs:w.heap.size≤w'.heap.size)(hb:∀k,k<w.heap.size→¬B k→w'.heap[k]?=w.heap[k]?∧¬B' k):A5 B' w' pp n f cv s t sd fv:=by
 obtain⟨L,c,C⟩:=h.code
 obtain⟨l,X⟩:=h.text
 exact⟨⟨L,c,C.cR.same (fun h0 g e=>(hb g (C.out h0 g e).2 (C.out h0 g e).1).1),C.byte,C.most,fun h0 g e=>⟨(hb g (C.out h0 g e).2 (C.out h0 g e).1).2,Nat.lt_of_lt_of_le (C.out h0 g e).2 hs⟩⟩,⟨l,X.tl.same hs (fun h0 g e=>(hb g (X.out h0 g e).2 (X.out h0 g e).1).1),X.size,X.most,fun h0 g e=>⟨(hb g (X.out h0 g e).2 (X.out h0 g e).1).2,Nat.lt_of_lt_of_le (X.out h0 g e).2 hs⟩⟩,h.p0,h.p1,h.n0,h.n1,h.d0,h.d1,h.s1,h.t1⟩
def tL (base:Nat)(w:World)(cells:Nat→Option Value):Prop:=
 ∃kd pp n f pc Lc ax s t sd b k e,(∀j,j<9→cells j=(dw kd pp n f (.slice pc Lc ax) s t sd (.slice b k e))[j]?)∧A5 (fun g=>base≤g) w pp n f (.slice pc Lc ax) s t sd (.slice b k e)
def oc (w:World)(m:Nat)(news:List Value):Prop:=∀i,i<m→tL w.heap.size w (fun j=>news[9*i+j]?)
theorem firsts {base:Nat}{w':World}{h:Nat}(hc:∀k,k<4→w'.heap[h+k]?=some (.cells Ea 5 (0,0)))(ht:w'.heap[h+4]?=some (.cells #[.string ⟨#[98]⟩] 9 (0,0)))(hb:h+5≤base)(i:Nat)(hi:i<9):tL base w' (fun j=>(mV h)[9*i+j]?):=by
 have ok:∀k,k<4→∃L c,iD (fun g=>base≤g) w' (.slice (some ⟨h+k,0,none⟩) 10 10) L c:=fun k hk=>⟨10,Mc,.full (h+k) 0 10 rfl ⟨fun i hi=>by
  rw[Nat.zero_add,cell_of_row _ _ _ _ _ _ (hc k hk)];match i,hi with
  |0,_|1,_|2,_|3,_|4,_|5,_|6,_|7,_|8,_|9,_=>rfl
  |i+10,hi=>omega,Nat.le_refl _,by decide,by decide⟩,by decide,by decide,fun _ g e=>by
  obtain rfl:h+k=g:=by simpa[Value.ownBlock]using e
  exact⟨by show ¬base≤h+k;omega,(Array.getElem?_eq_some_iff.1 (hc k hk)).1⟩⟩
 have no:∃L c,iD (fun g=>base≤g) w' (.slice none 0 0) L c:=⟨0,fun _=>0,.bare none 0 rfl rfl,fun i hi=>by omega,by decide,fun h=>by omega⟩;have nt:∃l,pR (fun g=>base≤g) w' (.slice none 0 0) l:=⟨[],⟨none,0,rfl,Nat.le_refl _,by decide,fun j hj=>by simp at hj⟩,fun s hs=>by simp at hs,by decide,fun h=>by simp at h⟩;have tx:∃l,pR (fun g=>base≤g) w' (.slice (some ⟨h+4,0,none⟩) 1 1) l:=by
  have hlt:=(Array.getElem?_eq_some_iff.1 ht).1
  refine⟨[⟨#[98]⟩],⟨_,1,rfl,Nat.le_refl _,by decide,fun j hj=>⟨h+4,0,rfl,hlt,fun j hj=> ?_⟩⟩,fun s hs=> ?_,by decide,fun _ g e=> ?_⟩
  ·rw[cell_of_row _ _ _ _ _ _ ht];match j,hj with
   |0,_=>rfl
   |j+1,hj=>simp at hj
  ·obtain rfl:=List.mem_singleton.1 hs;decide
  ·obtain rfl:h+4=g:=by simpa[Value.ownBlock]using e
   exact⟨by show ¬base≤h+4;omega,hlt⟩
 match i,hi with
 |0,_=>exact ⟨1,0,0,0,_,_,_,_,_,0,_,_,_,fun j hj=>by
   match j,hj with
   |0,_|1,_|2,_|3,_|4,_|5,_|6,_|7,_|8,_=>rfl
   |j+9,hj=>omega,ok 0 (by omega),nt,by decide,by decide,by decide,by decide,by decide,by decide,by decide,by decide⟩
 |1,_=>exact ⟨2,0,0,100,_,_,_,_,_,0,_,_,_,fun j hj=>by
   match j,hj with
   |0,_|1,_|2,_|3,_|4,_|5,_|6,_|7,_|8,_=>rfl
   |j+9,hj=>omega,ok 1 (by omega),nt,by decide,by decide,by decide,by decide,by decide,by decide,by decide,by decide⟩
 |2,_=>exact ⟨3,0,0,0,_,_,_,_,_,0,_,_,_,fun j hj=>by
   match j,hj with
   |0,_|1,_|2,_|3,_|4,_|5,_|6,_|7,_|8,_=>rfl
   |j+9,hj=>omega,ok 2 (by omega),nt,by decide,by decide,by decide,by decide,by decide,by decide,by decide,by decide⟩
 |3,_=>exact ⟨5,0,30,0,_,_,_,_,_,0,_,_,_,fun j hj=>by
   match j,hj with
   |0,_|1,_|2,_|3,_|4,_|5,_|6,_|7,_|8,_=>rfl
   |j+9,hj=>omega,no,nt,by decide,by decide,by decide,by decide,by decide,by decide,by decide,by decide⟩
 |4,_=>exact ⟨6,0,0,0,_,_,_,_,_,1,_,_,_,fun j hj=>by
   match j,hj with
   |0,_|1,_|2,_|3,_|4,_|5,_|6,_|7,_|8,_=>rfl
   |j+9,hj=>omega,no,nt,by decide,by decide,by decide,by decide,by decide,by decide,by decide,by decide⟩
 |5,_=>exact ⟨7,0,0,100,_,_,_,_,_,1,_,_,_,fun j hj=>by
   match j,hj with
   |0,_|1,_|2,_|3,_|4,_|5,_|6,_|7,_|8,_=>rfl
   |j+9,hj=>omega,ok 3 (by omega),tx,by decide,by decide,by decide,by decide,by decide,by decide,by decide,by decide⟩
 |6,_=>exact ⟨8,0,40,0,_,_,_,_,_,0,_,_,_,fun j hj=>by
   match j,hj with
   |0,_|1,_|2,_|3,_|4,_|5,_|6,_|7,_|8,_=>rfl
   |j+9,hj=>omega,no,nt,by decide,by decide,by decide,by decide,by decide,by decide,by decide,by decide⟩
 |7,_=>exact ⟨11,0,0,0,_,_,_,_,_,0,_,_,_,fun j hj=>by
   match j,hj with
   |0,_|1,_|2,_|3,_|4,_|5,_|6,_|7,_|8,_=>rfl
   |j+9,hj=>omega,no,nt,by decide,by decide,by decide,by decide,by decide,by decide,by decide,by decide⟩
 |8,_=>exact ⟨14,0,0,0,_,_,_,_,_,0,_,_,_,fun j hj=>by
   match j,hj with
   |0,_|1,_|2,_|3,_|4,_|5,_|6,_|7,_|8,_=>rfl
   |j+9,hj=>omega,no,nt,by decide,by decide,by decide,by decide,by decide,by decide,by decide,by decide⟩
 |i+9,hi=>omega
theorem A6 {G base:Nat}{w w1 w4:World}{m:Nat}{news:List Value}(F1:Jj w w1)(B:Below w1.heap.size w1 w4)(hS:oc w m news)(hb:w1.heap.size≤base)
  (hc:∀j u,((mV w.heap.size).toList++news)[j]?=some u→w4.cell? ⟨G,j,none⟩=some u)(i:Nat)(hi:i<9+m):tL base w4 (fun j=>w4.cell? ⟨G,i*9+j,none⟩):=by
 have hz:=F1.size;have opget:∀(kd p n f:Int) (cv:Value) (s t:ByteArray) (sd:Int) (fv:Value) (j:Nat),j<9→∃u,(dw kd p n f cv s t sd fv)[j]?=some u:=fun kd p n f cv s t sd fv j hj=>⟨_,Array.getElem?_eq_getElem (show j<9 from hj)⟩
 have h81:(mV w.heap.size).toList.length=81:=rfl;by_cases h9:i<9
 ·obtain⟨kd,p,n,f,pc,Lc,ax,s,t,sd,b,k,e,h1,h2⟩:=firsts (base:=base) (w':=w4) (h:=w.heap.size) (fun k hk=>(B.block _ (by omega)).trans (F1.code k hk)) ((B.block _ (by omega)).trans F1.text) (by omega) i h9
  refine⟨kd,p,n,f,pc,Lc,ax,s,t,sd,b,k,e,fun j hj=> ?_,h2⟩
  obtain⟨u,hu⟩:=opget kd p n f (.slice pc Lc ax) s t sd (.slice b k e) j hj
  rw[hu];refine hc _ _ ?_;rw[List.getElem?_append_left (by omega),show i*9+j=9*i+j by omega]
  have:=(h1 j hj).trans hu
  simpa using this
 ·obtain⟨kd,p,n,f,pc,Lc,ax,s,t,sd,b,k,e,h1,h2⟩:=hS (i-9) (by omega)
  have b4:=F1.below.trans (B.mono (by omega))
  refine⟨kd,p,n,f,pc,Lc,ax,s,t,sd,b,k,e,fun j hj=> ?_,h2.keep b4.size (fun k hk _=>⟨b4.block k hk,by omega⟩)⟩
  obtain⟨u,hu⟩:=opget kd p n f (.slice pc Lc ax) s t sd (.slice b k e) j hj
  rw[hu];refine hc _ _ ?_;rw[List.getElem?_append_right (by omega),h81,show i*9+j-81=9*(i-9)+j by omega]
  exact(h1 j hj).trans hu
theorem Km {M:Nat}{w:World}(hM:w.heap[M]?=some (.cells #[.slice none 0 0,.slice none 0 0,.slice none 0 0,.slice none 0 0,.slice none 0 0,.slice none 0 0,.slice none 0 0,.slice none 0 0,.slice none 0 0,.slice none 0 0] 35 (0,0)))(hW:w.heap[M+1]?=some (.cells #[.pointer (some ⟨M,0,none⟩),.slice none 0 0] 38 (0,0)))(h3:3≤M)(hT:bK w)(hK:kT w):
  WW w (M+1) M 0 200000 (fun k=>if k=M then 1 else if k=M+1 then 2 else 0) []:=by
 have l1:=(Array.getElem?_eq_some_iff.1 hM).1;have l2:=(Array.getElem?_eq_some_iff.1 hW).1;have c1:∀k,(if k=M then 1 else if k=M+1 then 2 else 0)=1→k=M:=fun k hk=>Classical.byContradiction fun c=>by
  rw[if_neg c]at hk;split at hk<;>omega
 refine⟨fun k hk=> ?_,⟨fun _=>.slice none 0 0,fun _=>[],⟨⟨fun r hr=> ?_,fun j=>frozen_of_row _ _ _ _ _ hM,fun r _=>World.ownsRow_nil _ _ _ _,fun r s _ _ _=>Or.inl rfl,(fun r _ c=>by cases c),l1,fun r hr=>of_decide_eq_true hr⟩,fun q i v _ hv=>by simp at hv,fun _ _=>rfl,fun k hk=> ?_,fun k hk=>by rw[c1 k hk];exact l1,fun k hk=>by rw[c1 k hk];exact h3⟩,fun _=>Nat.le_refl _⟩,?_,fun i p hp=>by simp at hp,hT,hK,Nat.le_refl _⟩
 ·split at hk
  ·omega
  ·split at hk
   ·omega
   ·exact absurd rfl hk
 ·rw[cell_of_row _ _ _ _ _ _ hM];match r,hr with
  |0,_|1,_|2,_|3,_|4,_|5,_|6,_|7,_|8,_|9,_=>rfl
  |r+10,hr=>exact absurd hr (by show ¬r+10<10;omega)
 ·rcases hk with rfl|⟨r,_,c⟩
  ·exact if_pos rfl
  ·cases c
 ·refine⟨fun r=>if r=0 then .pointer (some ⟨M,0,none⟩)else .slice none 0 0,rfl,⟨fun r hr=> ?_,fun j=>frozen_of_row _ _ _ _ _ hW,fun r hr=> ?_,fun r s hr hs hne=> ?_,fun r hr c=> ?_,l2,fun r hr=> ?_⟩,fun k hk=> ?_⟩
  ·rw[cell_of_row _ _ _ _ _ _ hW];match r,hr with
   |0,_|1,_=>rfl
   |r+2,hr=>exact absurd hr (by show ¬r+2<2;omega)
  ·obtain rfl:r=1:=by simpa[wT]using hr
   exact World.ownsRow_nil _ _ _ _
  ·obtain rfl:r=1:=by simpa[wT]using hr
   exact Or.inl rfl
  ·obtain rfl:r=1:=by simpa[wT]using hr
   cases c
  ·obtain rfl:r=1:=by simpa[wT]using hr
   decide
  ·rcases hk with rfl|⟨r,hr,c⟩
   ·show(if M+1=M then 1 else if M+1=M+1 then 2 else 0)=2
    rw[if_neg (by omega),if_pos rfl]
   ·obtain rfl:r=1:=by simpa[wT]using hr
    cases c
theorem WW.row {w:World}{A M L T:Nat}{col:Nat→Nat}{ps:List PP}(h:WW w A M L T col ps):∃ar kr,w.cell? ⟨A,1,none⟩=some (.slice ar ps.length kr)∧∀j p,ps[j]?=some p→∃g,ar=some ⟨g,0,none⟩∧ps.length≤kr∧kr≤9223372036854775807∧w.cell? ⟨g,j*2,none⟩=some (.pointer (some ⟨p.H,0,none⟩))∧w.cell? ⟨g,j*2+1,none⟩=some (.pointer (some ⟨p.Y,0,none⟩)):=by
 obtain⟨F,_,ob,_⟩:=h.ob
 have c1:=ob.cell 1 (by decide);rcases aO (ob.own 1 rfl)with⟨e,e0⟩|⟨g,kr,e,_,hm,hn,hc⟩
 ·exact⟨none,0,by rw[c1,e,e0],fun j p hp=>by have:=(List.getElem?_eq_some_iff.1 hp).1;omega⟩
 ·have pc:∀(l:List PP) (j:Nat) (p:PP),l[j]?=some p→(dW l)[j*2]?=some (.pointer (some ⟨p.H,0,none⟩))∧(dW l)[j*2+1]?=some (.pointer (some ⟨p.Y,0,none⟩)):=by
   intro l;induction l with
   |nil=>intro j p h;simp at h
   |cons a l ih=>
    intro j p h
    cases j with
    |zero=>
     simp at h;subst h
     exact⟨rfl,rfl⟩
    |succ j=>
     have:=ih j p (by simpa using h)
     rw[show(j+1)*2=j*2+2 by omega];exact this
  exact⟨_,kr,by rw[c1,e],fun j p hp=>⟨g,rfl,hn,hm,hc _ _ (pc ps j p hp).1,hc _ _ (pc ps j p hp).2⟩⟩
theorem Lo {w:World}{A M L T:Nat}{col:Nat→Nat}{ps:List PP}(h:nr w A M L T col ps){pp n f:Int}{pc:Option Addr}{Lc ax:Nat}{s t:ByteArray}{sd:Int}{b:Option Addr}{k e:Nat}(kd:Int)(hk:kd<1∨16<kd∨(8≤kd∧kd≠15∧kd≤16∧ps.length=0)):
  Calls Tryz.prog 6 #[.pointer (some ⟨A,0,none⟩),.agg (dw kd pp n f (.slice pc Lc ax) s t sd (.slice b k e))] w (bC A M L T col w):=by
 have Q:=Da w kd pp n f (.slice pc Lc ax) s t sd (.slice b k e);have q0:=Q.c0;have HF:=hid (h.ww.idle Q.dY)
 obtain⟨ar,kr,a1,_⟩:=(h.ww.below Q.dY).row
 have k5:(kd==5)=false:=by rw[beq_eq_false_iff_ne];omega
 have k6:(kd==6)=false:=by rw[beq_eq_false_iff_ne];omega
 have k7:(kd==7)=false:=by rw[beq_eq_false_iff_ne];omega
 have k15:(kd==15)=false:=by rw[beq_eq_false_iff_ne];omega
 clear Q h;generalize ps.length=pn at*;rcases hk with hk|hk|hk
 ·have k1:decide ((1:Int)≤kd)=false:=decide_eq_false (by omega);have k1':¬(1:Int)≤kd:=by omega
  have k8:decide (kd<8)=true:=decide_eq_true (by omega);have k8':kd<8:=by omega
  go_in;go_wp2_with(refine aF rfl 43 _ rfl (.agg (dw kd pp n f (.slice pc Lc ax) s t sd (.slice b k e))) rfl (dw kd pp n f (.slice pc Lc ax) s t sd (.slice b k e)) (gI _ _ _ _ _ _ _ _ _ _ _ _ _) ?_)
  all_goals
   go_ret;exact HF.out
 ·have k4:decide (kd≤4)=false:=decide_eq_false (by omega);have k4':¬kd≤4:=by omega
  have k1':(1:Int)≤kd:=by omega
  have k8':¬kd<8:=by omega
  have k16:=hk;go_in;go_wp2_with(refine aF rfl 43 _ rfl (.agg (dw kd pp n f (.slice pc Lc ax) s t sd (.slice b k e))) rfl (dw kd pp n f (.slice pc Lc ax) s t sd (.slice b k e)) (gI _ _ _ _ _ _ _ _ _ _ _ _ _) ?_)
  all_goals
   go_ret;exact HF.out
 ·have k4':¬kd≤4:=by omega
  have k1':(1:Int)≤kd:=by omega
  obtain rfl:=hk.2.2.2;clear hk;go_in;go_wp2_with(refine aF rfl 43 _ rfl (.agg (dw kd pp n f (.slice pc Lc ax) s t sd (.slice b k e))) rfl (dw kd pp n f (.slice pc Lc ax) s t sd (.slice b k e)) (gI _ _ _ _ _ _ _ _ _ _ _ _ _) ?_)
  go_ret;exact HF.out
theorem Ko {w:World}{A M L T:Nat}{col:Nat→Nat}{ps:List PP}(h:nr w A M L T col ps){pp n f:Int}{pc:Option Addr}{Lc ax:Nat}{s t:ByteArray}{sd:Int}{b:Option Addr}{k e:Nat}(O:A5 (fun k=>col k=1) w pp n f (.slice pc Lc ax) s t sd (.slice b k e))(hne:0<ps.length):
  Calls Tryz.prog 6 #[.pointer (some ⟨A,0,none⟩),.agg (dw 16 pp n f (.slice pc Lc ax) s t sd (.slice b k e))] w (bC A M L T col w):=by
 have Q:=Da w 16 pp n f (.slice pc Lc ax) s t sd (.slice b k e);have q0:=Q.c0;have q1:=Q.c1;have q2:=Q.c2;have q7:=Q.c7;have hz:=Q.size;have B0:=Q.dY;clear Q
 obtain⟨j,p,hj,hp⟩:∃(j:Nat) (p:PP),(j:Int)=De pp ps.length∧ps[j]?=some p:=by
  have:=Bc pp ps.length (by omega)
  refine⟨(De pp ps.length).toNat,_,by omega,List.getElem?_eq_getElem (by omega)⟩
 have HPK:Hid (∀W,Calls Tryz.prog 13 #[.int .i64 pp,.int .i64 (ps.length:Nat)] W fun e w'=>e=.returned (.int .i64 (j:Int))∧w'=W):=fun W=>by
  rw[hj];exact mo pp ps.length O.p0 O.p1 (by omega) (by have:=h.ps;omega) W
 obtain⟨ar,kr,a1,hrow⟩:=(h.ww.below B0).row
 obtain⟨gr,rfl,hk1,hk2,r0,r1⟩:=hrow j p hp
 have hjl:=(List.getElem?_eq_some_iff.1 hp).1;have HH:=hid h;have HO:=hid O;have HPP:=hid hp;have hlp:=h.ps;clear h O hrow hp hj;generalize hpn:ps.length=pn at*;have n0:((pn:Int)==0)=false:=by rw[beq_eq_false_iff_ne];omega
 have hij:(j:Int)<(pn:Int):=by omega
 obtain⟨H,hH⟩:∃H,p.H=H:=⟨_,rfl⟩
 obtain⟨Y,hY⟩:∃Y,p.Y=Y:=⟨_,rfl⟩
 rw[hH]at r0;rw[hY]at r1;go_in;go_wp2_with(refine aF rfl 43 _ rfl (.agg (dw 16 pp n f (.slice pc Lc ax) s t sd (.slice b k e))) rfl (dw 16 pp n f (.slice pc Lc ax) s t sd (.slice b k e)) (gI _ _ _ _ _ _ _ _ _ _ _ _ _) ?_)
 generalize(w.alloc (.cells (dw 16 pp n f (.slice pc Lc ax) s t sd (.slice b k e)) 43))=w0 at*
 go_region_held3 (fun W=>W.cell? ⟨A,1,none⟩=some (.slice (some ⟨gr,0,none⟩) pn kr)∧W.cell? ⟨w.heap.size,1,none⟩=some (.int .i64 pp)∧W.cell? ⟨gr,j*2,none⟩=some (.pointer (some ⟨H,0,none⟩))∧W.cell? ⟨gr,j*2+1,none⟩=some (.pointer (some ⟨Y,0,none⟩))) (go_keep) (first|(go_at_call 13;go_fit (HPK.out w0.drew);rintro e2 w2 ⟨rfl,hw2⟩;obtain rfl:=hw2.symm)|(go_at_call 13;go_fit (HPK.out (w0.alloc (.cells #[.pointer none,.pointer none] 51)).drew);rintro e2 w2 ⟨rfl,hw2⟩;obtain rfl:=hw2.symm))
 all_goals
  have hh:=heap_alloc_new w0 (.cells #[.pointer (some ⟨H,0,none⟩),.pointer (some ⟨Y,0,none⟩)] 51);rw[hz]at hh;have b1:Below w0.heap.size w0 (w0.alloc (.cells #[.pointer (some ⟨H,0,none⟩),.pointer (some ⟨Y,0,none⟩)] 51)).drew:=((Below.refl _ _).alloc (Nat.le_refl _) _).drew;have p0:(w0.alloc (.cells #[.pointer (some ⟨H,0,none⟩),.pointer (some ⟨Y,0,none⟩)] 51)).drew.cell? ⟨w.heap.size+1,0,none⟩=some (.pointer (some ⟨H,0,none⟩)):=cell_of_row _ _ _ _ _ _ hh;have p1:(w0.alloc (.cells #[.pointer (some ⟨H,0,none⟩),.pointer (some ⟨Y,0,none⟩)] 51)).drew.cell? ⟨w.heap.size+1,1,none⟩=some (.pointer (some ⟨Y,0,none⟩)):=cell_of_row _ _ _ _ _ _ hh;have hz1:(w0.alloc (.cells #[.pointer (some ⟨H,0,none⟩),.pointer (some ⟨Y,0,none⟩)] 51)).drew.heap.size=w.heap.size+2:=by show(w0.alloc _).heap.size=_;rw[World.size_alloc];omega
  have q0:=cS b1 q0;have q2:=cS b1 q2;have q7:=cS b1 q7;have HB:=hid (B0.trans (b1.mono B0.size));clear hh b1 B0 a1 r0 r1 q1
  generalize(w0.alloc (.cells #[.pointer (some ⟨H,0,none⟩),.pointer (some ⟨Y,0,none⟩)] 51)).drew=w1 at*
  have HW:=hid (HH.out.below HB.out);have HC:Hid (∀k,w.heap.size≤k→col k=0):=fun k hk=>Classical.byContradiction fun c=>by have:=(HH.out.ww.lt k c).1;omega
  have P:=HW.out.ww.pr j p HPP.out
  obtain⟨d,D⟩:=P.y
  rw[hY]at D;have y0:w1.cell? ⟨Y,0,none⟩=some (.slice (some ⟨d.cb,0,none⟩) p.g.L d.cc):=D.cell 0 (by omega);have y1:w1.cell? ⟨Y,1,none⟩=some (.int .i64 p.g.fuel):=D.cell 1 (by omega);have y73:w1.cell? ⟨Y,73,none⟩=some (.string (iw p.h)):=D.cell 73 (by omega);have hYl:=D.ob.lt;have cY:col Y=4+2*j:=D.dk.dR Y (Or.inl rfl);have hlg:(iw p.h).size≤10000000:=by
   have h1:=wX p.h.az P.oh.txt;have h2:=jB P.oh.inv P.pg.ok.EL
   show(strOfNums (gQ p.h.az)).size≤_
   omega
  have CA:iD (fun k=>col k=1) w1 (.slice (some ⟨d.cb,0,none⟩) p.g.L d.cc) p.g.L p.g.c:=⟨.full d.cb 0 d.cc rfl D.dk.code,P.pg.ok.vp.byte,by have:=P.pg.ok.vp.most;omega,fun _ g e=>by
   obtain rfl:d.cb=g:=by simpa[Value.ownBlock]using e
   have:=D.dk.kW
   exact⟨by show ¬col d.cb=1;have:col d.cb=4+2*j:=this;omega,D.dk.lt _ D.dk.kW⟩⟩
  obtain⟨lg,hlgE⟩:∃lg,iw p.h=lg:=⟨_,rfl⟩
  rw[hlgE]at y73 hlg
  obtain⟨m,hm,hm2⟩:∃m:Nat,(m:Int)=De n ((lg.size:Int)+1)∧m≤lg.size:=by
   have:=Bc n ((lg.size:Int)+1) (by omega)
   exact⟨(De n ((lg.size:Int)+1)).toNat,by omega,by omega⟩
  have HPK2:Hid (∀W,Calls Tryz.prog 13 #[.int .i64 n,.int .i64 (IntKind.i64.wrap ((lg.size:Int)+1))] W fun e w'=>e=.returned (.int .i64 (m:Int))∧w'=W):=fun W=>by
   rw[show IntKind.i64.wrap ((lg.size:Int)+1)=(lg.size:Int)+1 by rw[IntKind.wrap_i64];omega,hm];exact mo n ((lg.size:Int)+1) HO.out.n0 HO.out.n1 (by omega) (by omega) W
  have HRS:Hid (∀W,Below w1.heap.size w1 W→Calls Tryz.prog 12 #[.pointer (some ⟨A,0,none⟩),.slice (some ⟨d.cb,0,none⟩) p.g.L d.cc,.string (lg.extract 0 m),.int .u64 sd,.int .i64 p.g.fuel] W fun e w'=>bC A M L T col w e w'∧w'.cell? ⟨w.heap.size+1,1,none⟩=some (.pointer (some ⟨Y,0,none⟩))∧w'.cell? ⟨Y,73,none⟩=some (.string lg)∧w'.cell? ⟨Y,0,none⟩=some (.slice (some ⟨d.cb,0,none⟩) p.g.L d.cc)∧w'.cell? ⟨Y,1,none⟩=some (.int .i64 p.g.fuel)∧w'.cell? ⟨w.heap.size,7,none⟩=some (.int .u64 sd)):=fun W bW=>
   (pQ (HW.out.ww.below bW) HW.out.l HW.out.ps HW.out.t0 (CA.below bW) (lg.extract 0 m) (by rw[ByteArray.size_extract];omega) sd p.g.fuel HO.out.d0 HO.out.d1).mono fun e' w' ⟨hs,hf⟩=>by
    have cl:∀{a v},col a.block≠1∧col a.block≠2→w1.cell? a=some v→w'.cell? a=some v:=fun{a v} hc hv=>(World.cell?_of_block (w:=W) (a:=a) (hf.block _ (Nat.lt_of_lt_of_le (block_lt_of_cell hv) bW.size) (fun c=>c.elim hc.1 hc.2))).trans (cS bW hv)
    exact⟨hs.lift (HB.out.trans (bW.mono HB.out.size)),cl (by rw[HC.out _ (by show _≤w.heap.size+1;omega)];decide) p1,cl (by show col Y≠1∧col Y≠2;omega) y73,cl (by show col Y≠1∧col Y≠2;omega) y0,cl (by show col Y≠1∧col Y≠2;omega) y1,cl (by rw[HC.out _ (Nat.le_refl _)];decide) q7⟩
  have him:(m:Int)≤(lg.size:Int):=by omega
  have ha1:w1.cell? ⟨A,0,none⟩=some (.pointer (some ⟨M,0,none⟩)):=HW.out.ww.cA (Below.refl _ _);clear P D CA hm hlgE p0;generalize p.g.L=gL at*;generalize p.g.fuel=gf at*;go_wp2_with fail
  go_region_held3 (fun W=>W.cell? ⟨w.heap.size,2,none⟩=some (.int .i64 n)∧W.cell? ⟨w.heap.size+1,1,none⟩=some (.pointer (some ⟨Y,0,none⟩))∧W.cell? ⟨Y,73,none⟩=some (.string lg)) (go_keep) (first|(go_at_call 13;go_fit (HPK2.out w1.drew);rintro e3 w3 ⟨rfl,hw3⟩;obtain rfl:=hw3.symm))
  all_goals
   go_wp2_with fail
   go_region_held3 (fun W=>W.cell? ⟨w.heap.size+1,1,none⟩=some (.pointer (some ⟨Y,0,none⟩))∧W.cell? ⟨Y,73,none⟩=some (.string lg)∧W.cell? ⟨Y,0,none⟩=some (.slice (some ⟨d.cb,0,none⟩) gL d.cc)∧W.cell? ⟨Y,1,none⟩=some (.int .i64 gf)∧W.cell? ⟨w.heap.size,7,none⟩=some (.int .u64 sd)) (go_keep) (first|(go_at_call 12;go_fit (HRS.out w1.drew.drew (Below.refl _ _).drew.drew);rintro e' w4 ⟨hS,x1,x2,x3,x4,x5⟩;obtain rfl:=hS.1;have HS:Hid (bC A M L T col w (.returned (.bool true)) w4):=hS;clear hS))
   all_goals
    go_wp2_with fail
    go_ret;exact HS.out
theorem Ll {w:World}{A M L T:Nat}{col:Nat→Nat}{ps:List PP}(h:nr w A M L T col ps){pp n f:Int}{pc:Option Addr}{Lc ax:Nat}{s t:ByteArray}{sd:Int}{b:Option Addr}{k e:Nat}(O:A5 (fun k=>col k=1) w pp n f (.slice pc Lc ax) s t sd (.slice b k e)):
  Calls Tryz.prog 6 #[.pointer (some ⟨A,0,none⟩),.agg (dw 5 pp n f (.slice pc Lc ax) s t sd (.slice b k e))] w (bC A M L T col w):=by
 have Q:=Da w 5 pp n f (.slice pc Lc ax) s t sd (.slice b k e);have q0:=Q.c0;have q1:=Q.c1;have q2:=Q.c2;have q3:=Q.c3;have q4:=Q.c4;have q5:=Q.c5;have q6:=Q.c6;have q7:=Q.c7;have q8:=Q.c8;have B0:=Q.dY;clear Q;go_in;go_wp2_with(refine aF rfl 43 _ rfl (.agg (dw 5 pp n f (.slice pc Lc ax) s t sd (.slice b k e))) rfl (dw 5 pp n f (.slice pc Lc ax) s t sd (.slice b k e)) (gI _ _ _ _ _ _ _ _ _ _ _ _ _) ?_)
 generalize(w.alloc (.cells (dw 5 pp n f (.slice pc Lc ax) s t sd (.slice b k e)) 43))=w0 at*
 have HC:Hid (Calls Tryz.prog 10 #[.agg (dw 5 pp n f (.slice pc Lc ax) s t sd (.slice b k e))] w0 (bC A M L T col w)):=by
  have h0:=h.below B0
  obtain⟨Lx,c,C⟩:=O.code
  obtain rfl:Lx=Lc:=by
   obtain⟨p',c',q⟩:=C.cR.form
   simp only[Value.slice.injEq]at q;exact q.2.1.symm
  have C0:=C.below B0
  exact(FU w0 pp n f pc Lx ax s t sd b k e (z7 s n) (fun w' hB'=>wM w' (kT.below h0.ww.pI hB' h0.ww.pI.two) s (by have:=O.s1;omega) n O.n0 O.n1) (fun w'=>pM w' s (by have:=O.s1;omega) n O.n0 O.n1)).mono fun e' w' ⟨q,b'⟩=>by subst q;exact(h0.ww.idle b').lift B0
 clear h O;refine HC.out.mono ?_;intro e' w' hS;obtain rfl:=hS.1;have HS:=hid hS;clear hS HC;go_wp2_with fail
 go_ret;exact HS.out
theorem Lm {w:World}{A M L T:Nat}{col:Nat→Nat}{ps:List PP}(h:nr w A M L T col ps){pp n f:Int}{pc:Option Addr}{Lc ax:Nat}{s t:ByteArray}{sd:Int}{b:Option Addr}{k e:Nat}(O:A5 (fun k=>col k=1) w pp n f (.slice pc Lc ax) s t sd (.slice b k e)):
  Calls Tryz.prog 6 #[.pointer (some ⟨A,0,none⟩),.agg (dw 6 pp n f (.slice pc Lc ax) s t sd (.slice b k e))] w (bC A M L T col w):=by
 have Q:=Da w 6 pp n f (.slice pc Lc ax) s t sd (.slice b k e);have q0:=Q.c0;have q1:=Q.c1;have q2:=Q.c2;have q3:=Q.c3;have q4:=Q.c4;have q5:=Q.c5;have q6:=Q.c6;have q7:=Q.c7;have q8:=Q.c8;have B0:=Q.dY;clear Q;go_in;go_wp2_with(refine aF rfl 43 _ rfl (.agg (dw 6 pp n f (.slice pc Lc ax) s t sd (.slice b k e))) rfl (dw 6 pp n f (.slice pc Lc ax) s t sd (.slice b k e)) (gI _ _ _ _ _ _ _ _ _ _ _ _ _) ?_)
 generalize(w.alloc (.cells (dw 6 pp n f (.slice pc Lc ax) s t sd (.slice b k e)) 43))=w0 at*
 have HC:Hid (Calls Tryz.prog 10 #[.agg (dw 6 pp n f (.slice pc Lc ax) s t sd (.slice b k e))] w0 (bC A M L T col w)):=by
  have h0:=h.below B0
  obtain⟨Lx,c,C⟩:=O.code
  obtain rfl:Lx=Lc:=by
   obtain⟨p',c',q⟩:=C.cR.form
   simp only[Value.slice.injEq]at q;exact q.2.1.symm
  have C0:=C.below B0;have key:Calls Tryz.prog 10 #[.agg (dw 6 pp n f (.slice pc Lx ax) s t sd (.slice b k e))] w0 (FT w0):=by
   by_cases hl:24<s.size∨24<t.size
   ·exact xV w0 pp n f pc Lx ax s t sd b k e _ _ (fun w'=>yZ w' s t (by have:=O.s1;omega) O.t1 hl sd) (fun w'=>zI w' s t (by have:=O.s1;omega) O.t1 hl sd)
   ·exact xV w0 pp n f pc Lx ax s t sd b k e _ _ (fun w'=>Cs w' s t (by omega) (by omega) sd O.d0 O.d1) (fun w'=>tE w' s t (by omega) (by omega) sd O.d0 O.d1)
  exact key.mono fun e' w' ⟨q,b'⟩=>by subst q;exact(h0.ww.idle b').lift B0
 clear h O;refine HC.out.mono ?_;intro e' w' hS;obtain rfl:=hS.1;have HS:=hid hS;clear hS HC;go_wp2_with fail
 go_ret;exact HS.out
theorem Ln {w:World}{A M L T:Nat}{col:Nat→Nat}{ps:List PP}(h:nr w A M L T col ps){pp n f:Int}{pc:Option Addr}{Lc ax:Nat}{s t:ByteArray}{sd:Int}{b:Option Addr}{k e:Nat}(O:A5 (fun k=>col k=1) w pp n f (.slice pc Lc ax) s t sd (.slice b k e)):
  Calls Tryz.prog 6 #[.pointer (some ⟨A,0,none⟩),.agg (dw 7 pp n f (.slice pc Lc ax) s t sd (.slice b k e))] w (bC A M L T col w):=by
 have Q:=Da w 7 pp n f (.slice pc Lc ax) s t sd (.slice b k e);have q0:=Q.c0;have q1:=Q.c1;have q2:=Q.c2;have q3:=Q.c3;have q4:=Q.c4;have q5:=Q.c5;have q6:=Q.c6;have q7:=Q.c7;have q8:=Q.c8;have B0:=Q.dY;clear Q;go_in;go_wp2_with(refine aF rfl 43 _ rfl (.agg (dw 7 pp n f (.slice pc Lc ax) s t sd (.slice b k e))) rfl (dw 7 pp n f (.slice pc Lc ax) s t sd (.slice b k e)) (gI _ _ _ _ _ _ _ _ _ _ _ _ _) ?_)
 generalize(w.alloc (.cells (dw 7 pp n f (.slice pc Lc ax) s t sd (.slice b k e)) 43))=w0 at*
 have HC:Hid (Calls Tryz.prog 11 #[.pointer (some ⟨A,0,none⟩),.agg (dw 7 pp n f (.slice pc Lc ax) s t sd (.slice b k e))] w0 (bC A M L T col w)):=by
  have h0:=h.below B0
  obtain⟨Lx,c,C⟩:=O.code
  obtain rfl:Lx=Lc:=by
   obtain⟨p',c',q⟩:=C.cR.form
   simp only[Value.slice.injEq]at q;exact q.2.1.symm
  have C0:=C.below B0
  obtain⟨l,X⟩:=O.text
  exact(A4 h0.ww h.l h.ps h.t0 pp n f C0 s t sd O.d0 O.d1 (X.below B0)).mono fun e' w' hs=>hs.lift B0
 clear h O;refine HC.out.mono ?_;intro e' w' hS;obtain rfl:=hS.1;have HS:=hid hS;clear hS HC;go_wp2_with fail
 go_ret;exact HS.out
theorem Kn {w:World}{A M L T:Nat}{col:Nat→Nat}{ps:List PP}(h:nr w A M L T col ps){pp n f:Int}{pc:Option Addr}{Lc ax:Nat}{s t:ByteArray}{sd:Int}{b:Option Addr}{k e:Nat}(O:A5 (fun k=>col k=1) w pp n f (.slice pc Lc ax) s t sd (.slice b k e)):
  Calls Tryz.prog 6 #[.pointer (some ⟨A,0,none⟩),.agg (dw 15 pp n f (.slice pc Lc ax) s t sd (.slice b k e))] w (bC A M L T col w):=by
 have Q:=Da w 15 pp n f (.slice pc Lc ax) s t sd (.slice b k e);have q0:=Q.c0;have q1:=Q.c1;have q2:=Q.c2;have q3:=Q.c3;have q4:=Q.c4;have q5:=Q.c5;have q6:=Q.c6;have q7:=Q.c7;have q8:=Q.c8;have B0:=Q.dY;clear Q;go_in;go_wp2_with(refine aF rfl 43 _ rfl (.agg (dw 15 pp n f (.slice pc Lc ax) s t sd (.slice b k e))) rfl (dw 15 pp n f (.slice pc Lc ax) s t sd (.slice b k e)) (gI _ _ _ _ _ _ _ _ _ _ _ _ _) ?_)
 generalize(w.alloc (.cells (dw 15 pp n f (.slice pc Lc ax) s t sd (.slice b k e)) 43))=w0 at*
 have HC:Hid (Calls Tryz.prog 12 #[.pointer (some ⟨A,0,none⟩),.slice pc Lc ax,.string s,.int .u64 sd,.int .i64 f] w0 (bC A M L T col w)):=by
  have h0:=h.below B0
  obtain⟨Lx,c,C⟩:=O.code
  obtain rfl:Lx=Lc:=by
   obtain⟨p',c',q⟩:=C.cR.form
   simp only[Value.slice.injEq]at q;exact q.2.1.symm
  have C0:=C.below B0
  exact(pQ h0.ww h.l h.ps h.t0 C0 s (by have:=O.s1;omega) sd f O.d0 O.d1).mono fun e' w' hs=>hs.1.lift B0
 clear h O;refine HC.out.mono ?_;intro e' w' hS;obtain rfl:=hS.1;have HS:=hid hS;clear hS HC;go_wp2_with fail
 go_ret;exact HS.out
end Go.Proofs.YtmpgjkhchfcjlaaGreatDoor
