import Derived.Test.YtmpgjkhchfcjlaaGreatDoorM34
namespace Go.Proofs.YtmpgjkhchfcjlaaGreatDoor
open Go.RowKit
set_option maxRecDepth 100000
set_option maxHeartbeats 2000000
theorem I9:(Tryz.prog.info? 9).map (fun i=>(i.zero,i.size,i.bytes))=some (some (.string ⟨#[]⟩),1,16):=by kernel_rfl
theorem Ia (w:World)(n:Nat)(hn:n≤1000):
  ∃w1,(Instr.makeSlice 41 (.int .i64 (n:Int)) (.int .i64 (n:Int))).run Tryz.prog w=.ok (.slice (some ⟨w.heap.size,0,none⟩) n n) w1∧w1.heap[w.heap.size]?=some (.cells (List.replicate n (Value.string ⟨#[]⟩)).toArray 9 (0,0))∧Below w.heap.size w w1:=by
 obtain⟨i,hi,hz0,hz1,hz2⟩:=bB I9
 obtain⟨w1,hr,ho,hg⟩:=run_make_full (P:=Tryz.prog) w w.heap.size 41 9 i _ 1 Tryz.underlying41 hi hz0 hz1 .i64 .i64 n (by rw[hz2];omega) (by unfold maxLen;omega) (Nat.le_refl _)
 refine⟨w1,hr,?_,(Below.refl _ _).grown hg (Nat.le_refl _) (fun k hk=>by cases hk)⟩
 rcases ho.2 with⟨h,_⟩|⟨g,cap,cur,h,_,hh,_,_,hcs,htake⟩
 ·simp at h
 ·simp only[Value.slice.injEq,Option.some.injEq,Addr.mk.injEq,and_true,true_and]at h
  obtain⟨rfl,rfl⟩:=h
  rw[hh];rw[Nat.mul_one,show(Value.string ⟨#[]⟩).cells=#[Value.string ⟨#[]⟩]from rfl,toList_madeCells_one,List.take_of_length_le (by rw[Array.length_toList];omega)]at htake;rw[←htake]
def jY (N:Nat)(f:Nat→ByteArray):List Value:=(List.range N).map fun i=>.string (f i)
theorem nT (N:Nat)(f:Nat→ByteArray):(jY N f).length=N:=by simp[jY]
theorem nU (N:Nat)(f:Nat→ByteArray)(j:Nat)(hj:j<N):(jY N f)[j]?=some (.string (f j)):=by simp[jY,List.getElem?_range hj]
theorem F8 (N:Nat)(f f':Nat→ByteArray)(k:Nat)(t:ByteArray)(h:∀j,j<N→f' j=if j=k then t else f j):(jY N f).set k (.string t)=jY N f':=by
 apply List.ext_getElem?;intro j;by_cases hj:j<N
 ·rw[List.getElem?_set,nU N f' j hj,h j hj];by_cases e:k=j
  ·subst e;rw[if_pos rfl,if_pos (by rw[nT];exact hj),if_pos rfl]
  ·rw[if_neg e,nU N f j hj,if_neg (fun c=>e c.symm)]
 ·rw[List.getElem?_eq_none (by simp[nT];omega),List.getElem?_eq_none (by rw[nT];omega)]
theorem CR (N:Nat):List.replicate N (Value.string ⟨#[]⟩)=jY N (fun _=>⟨#[]⟩):=by
 apply List.ext_getElem?;intro j;by_cases hj:j<N
 ·rw[nU N _ j hj,List.getElem?_replicate,if_pos hj]
 ·rw[List.getElem?_eq_none (by simp;omega),List.getElem?_eq_none (by rw[nT];omega)]
def upTo (n:Nat)(f:Nat→ByteArray):Nat→ByteArray:=fun j=>if j<n then f j else⟨#[]⟩
theorem CS (w:World)(H:Nat)(v:Value)(G:Nat→Nat)(l:List dQ)(K:KH w H v G l)(hl:l.length≤1000):
  Calls Tryz.prog 92 #[.pointer (some ⟨H,0,none⟩)] w fun e w'=>e=.returned (.slice (some ⟨w.heap.size,0,none⟩) l.length l.length)∧w'.heap[w.heap.size]?=some (.cells (jY l.length (fun j=>(l.getD j fV).text)).toArray 9 (0,0))∧Below w.heap.size w w':=by
 have hH:=K.lt;have hft:=ji
 obtain⟨w0,hmk,hh0,B0⟩:=Ia w l.length hl
 rw[CR]at hh0;have HLE:=hid (iO _ H v G l K.c7 K.row);have HA:Hid (∀W n,Below w.heap.size w W→n<l.length→Calls Tryz.prog 128 #[.pointer (some ⟨H,7,none⟩),.int .i64 (n:Nat)] W fun e w'=>e=.returned (.agg #[.string (l.getD n fV).text,.slice (some ⟨G n,0,none⟩) 64 64])∧Below W.heap.size W w'):=fun W n b hn=>jX W H v G l (K.below b).c7 (K.below b).row n hn
 have HH0:Hid (w0.heap[w.heap.size]?=some (.cells (jY l.length (fun _=>⟨#[]⟩)).toArray 9 (0,0))∧Below w.heap.size w w0):=⟨hh0,B0⟩;clear hh0 B0
 obtain⟨T,hTT⟩:∃T:Nat→ByteArray,(fun j=>(l.getD j fV).text)=T:=⟨_,rfl⟩
 have HA':Hid (∀W n,Below w.heap.size w W→n<l.length→Calls Tryz.prog 128 #[.pointer (some ⟨H,7,none⟩),.int .i64 (n:Nat)] W fun e w'=>e=.returned (.agg #[.string (T n),.slice (some ⟨G n,0,none⟩) 64 64])∧Below W.heap.size W w'):=by rw[←hTT];exact HA
 rw[hTT];clear HA hTT;generalize l.length=N at*;clear K;go_in;go_wp2_with fail
 refine HLE.out.mono ?_;rintro e w1 ⟨rfl,hw⟩;obtain rfl:=hw.symm;clear HLE;go_wp2_with fail
 clear hmk;go_loopw [4,12] (fun _ i wr=>∃n:Nat,n≤N∧i=.int .i64 n∧wr.heap[w.heap.size]?=some (.cells (jY N (upTo n T)).toArray 9 (0,0))∧Below w.heap.size w wr) (fun _ i _=>N-(intOf i).toNat)
 case atStart=>exact ⟨0,by omega,rfl,HH0.out.1,HH0.out.2⟩
 case round=>
  obtain⟨n,hn,rfl,hrow,BB⟩:=hrel
  by_cases hlt:n<N
  ·have hi1:(n:Int)<(N:Int):=(by omega);have H1:=hid (HA'.out wr n BB hlt);have HB:Hid (Below w.heap.size w wr∧wr.heap[w.heap.size]?=some (.cells (jY N (upTo n T)).toArray 9 (0,0))):=⟨BB,hrow⟩;have HLT:=hid hlt;clear BB hrow
   obtain⟨tx,htx⟩:∃tx,T n=tx:=⟨_,rfl⟩
   rw[htx]at H1;have HTX:=hid htx;clear htx;go_wp2_with fail
   refine H1.out.mono ?_;rintro e w2 ⟨rfl,B2⟩;have hlr:w.heap.size<wr.heap.size:=(Array.getElem?_eq_some_iff.1 HB.out.2).1;have hr2:=(B2.block _ hlr).trans HB.out.2;have bb2:=HB.out.1.trans (B2.mono HB.out.1.size);have c1:∃u,w2.cell? ⟨w.heap.size,n,none⟩=some u:=⟨_,(cell_of_row w2 w.heap.size n _ _ _ hr2).trans (by rw[List.getElem?_toArray];exact nU N _ n hlt)⟩
   obtain⟨u1,c1⟩:=c1
   have f1:=frozen_of_row w2 w.heap.size n _ _ hr2;have hl2:w.heap.size<w2.heap.size:=(Array.getElem?_eq_some_iff.1 hr2).1;have HR2:Hid ((w2.setCell ⟨w.heap.size,n,none⟩ (.string tx)).heap[w.heap.size]?=some (.cells (jY N (upTo (n+1) T)).toArray 9 (0,0))∧Below w.heap.size w (w2.setCell ⟨w.heap.size,n,none⟩ (.string tx))):=by
    refine⟨gX hr2 n _ ?_,bb2.setCell (p:=⟨w.heap.size,n,none⟩) (Nat.le_refl _) _⟩
    refine F8 N _ _ n tx fun j hj=> ?_
    unfold upTo;by_cases e:j=n
    ·subst e;rw[if_pos rfl,if_pos (by omega)];exact HTX.out
    ·rw[if_neg e];by_cases c:j<n
     ·rw[if_pos c,if_pos (by omega)]
     ·rw[if_neg c,if_neg (by omega)]
   clear B2 H1 HB hr2 bb2;generalize G n=gn at*;go_wp2_with fail
   go_roundw
   case rel=>exact ⟨n+1,by have:=HLT.out;omega,by go_num,HR2.out.1,HR2.out.2⟩
   case measure=>have:=HLT.out;simp[intOf];omega
  ·have hi1:¬(n:Int)<(N:Int):=(by omega);have HR3:Hid (wr.heap[w.heap.size]?=some (.cells (jY N T).toArray 9 (0,0))∧Below w.heap.size w wr):=by
    refine⟨?_,BB⟩
    rw[hrow]
    have:jY N (upTo n T)=jY N T:=by
     unfold jY;apply List.map_congr_left;intro j hj
     have:=List.mem_range.1 hj
     unfold upTo;rw[if_pos (by omega)]
    rw[this]
   clear hrow BB;go_wp2_with fail
   go_ret
   exact⟨rfl,HR3.out.1,HR3.out.2⟩
theorem eC {w:World}{base:Nat}{e:TypeId}{size:Nat}{v:Value}{n:Nat}{xs:List Value}(h:w.ownsRow base e size v n xs):∃a c,v=.slice a n c:=by
 rcases aO h with⟨e,h0⟩|⟨b,cp,e,_⟩
 ·exact⟨none,0,by rw[e,h0]⟩
 ·exact⟨_,cp,e⟩
theorem zB (l:List Cr):(bH l).length=l.length*3:=by
 induction l with
 |nil=>rfl
 |cons a l ih=>unfold bH at ih⊢;simp[ih];omega
theorem zC (l:List Cr):∀u∈bH l,u.oneCell'=true:=by
 intro u hu;unfold bH at hu;simp at hu
 obtain⟨c,_,rfl|rfl|rfl⟩:=hu<;>rfl
theorem KZ:∀(w:World) (a:Option Addr) (n c n' c':Nat),(binOp .eql 57 (.slice a n c) (.slice none n' c')).run Tryz.prog w=.ok (.bool a.isNone) w:=fun w a n c n' c'=>Lib.run_eql_slice_nil w _ _ a n c n' c' Tryz.underlying57
theorem CT (w:World)(b cap n:Nat)(xs:List Value)(hxl:xs.length=n*3)(hx1:∀u∈xs,u.oneCell'=true)(hl:n≤1000000)(hc:∀j u,xs[j]?=some u→w.cell? ⟨b,j,none⟩=some u):
  Calls Tryz.prog 175 #[.slice (some ⟨b,0,none⟩) n cap] w fun e w'=>(∃v,e=.returned v∧w'.ownsRow w.heap.size 67 3 v n xs)∧Below w.heap.size w w':=by
 obtain⟨i,hi,hz0,hz1,hz2⟩:=bB yR
 have hq:=KZ;have A:=hid hc;have HX:=hid hxl;have HL:=hid hl;clear hc hxl hl;go_in;go_wp2_with(at_builtin;refine wpList_append_own _ rfl _ _ 57 rfl w.heap.size 67 i _ 3 32 Tryz.underlying57 hi hz0 hz1 hz2 rfl (by decide) _ _ _ rfl (World.ownsRow_made w #[] 0 (Nat.le_refl _) (Nat.zero_le _) (by simp)) ⟨b,0,none⟩ n cap xs rfl ?qc1 ?qc2 ?qc3 ?qc4 ?qc5 ?qc6 ?_)
 case qc1=>exact HX.out
 case qc2=>
  intro j u hj;rw[Addr.add_lit,Nat.zero_add];exact Lib.cell?_alloc_some _ (A.out j u hj)
 case qc3=>exact hx1
 case qc4=>rw [Nat.zero_add];have:=HL.out;unfold maxLen;omega
 case qc5=>rw [Nat.zero_add];have:=HL.out;omega
 case qc6=>simp
 intro v' w1 hown hgrow hnil;go_wp2;go_ret
 refine⟨⟨v',rfl,by simpa using hown⟩,?_⟩
 exact((Below.refl _ w).alloc (Nat.le_refl _) _).grown hgrow (by simp) (by intro k hk;simp[Value.ownBlock]at hk;omega)
theorem F9 (w:World):Calls Tryz.prog 175 #[.slice none 0 0] w fun e w'=>e=.returned (.slice none 0 0)∧w'=w:=by
 have hq:=KZ;go_in;go_wp2;go_ret
 exact⟨rfl,rfl⟩
theorem uK {w:World}{U:Nat→Prop}{d:HD}{g:PG}{h:HS}(p:HU w U d g h)(hl:h.found.length≤1000000):
  Calls Tryz.prog 93 #[.pointer (some ⟨d.H,0,none⟩)] w fun e w'=>(∃v,e=.returned v∧w'.ownsRow w.heap.size 67 3 v h.found.length (bH h.found))∧Below w.heap.size w w':=by
 have c:w.cell? ⟨d.H,8,none⟩=some d.vf:=p.cell 8 (by omega)
 have HC:Hid (Calls Tryz.prog 175 #[d.vf] w fun e w'=>∃v,(e=.returned v∧w'.ownsRow w.heap.size 67 3 v h.found.length (bH h.found))∧Below w.heap.size w w'):=by
  rcases aO p.rf with⟨hv,hn⟩|⟨b,cap,hv,hb,hcap,hnc,hc⟩
  ·rw[hv]
   exact(F9 w).mono fun e w' ⟨x,y⟩=>⟨_,⟨x,by rw[List.eq_nil_of_length_eq_zero hn];exact World.ownsRow_nil _ _ _ _⟩,by rw[y];exact Below.refl _ _⟩
  ·rw[hv]
   exact(CT w b cap h.found.length (bH h.found) (zB _) (zC _) hl hc).mono fun e w' ⟨⟨v,x,y⟩,z⟩=>⟨v,⟨x,y⟩,z⟩
 have HA:Hid (Calls Tryz.prog 135 #[.pointer (some ⟨d.H,8,none⟩)] w fun e w'=>∃v,(e=.returned v∧w'.ownsRow w.heap.size 67 3 v h.found.length (bH h.found))∧Below w.heap.size w w'):=by
  generalize d.vf=vf at c HC
  clear p hl
  go_enter Tryz.func135,Tryz.ntmps135
  go_wp2_with fail
  refine HC.out.mono ?_
  rintro e w1 ⟨v1,⟨rfl,hc1⟩,B1⟩
  obtain⟨p1,c1,rfl⟩:=eC hc1
  have HR:Hid (w1.ownsRow w.heap.size 67 3 (.slice p1 h.found.length c1) h.found.length (bH h.found)∧Below w.heap.size w w1):=⟨hc1,B1⟩
  clear hc1 B1 HC
  go_wp2_with fail
  go_ret
  exact⟨_,⟨rfl,HR.out.1⟩,HR.out.2⟩
 clear p hl HC c
 go_enter Tryz.func93,Tryz.ntmps93
 go_wp2_with fail
 refine HA.out.mono ?_
 rintro e w1 ⟨v1,⟨rfl,hc1⟩,B1⟩
 obtain⟨p1,c1,rfl⟩:=eC hc1
 have HR:Hid (w1.ownsRow w.heap.size 67 3 (.slice p1 h.found.length c1) h.found.length (bH h.found)∧Below w.heap.size w w1):=⟨hc1,B1⟩
 clear hc1 B1 HA
 go_wp2_with fail
 go_ret
 exact⟨⟨_,rfl,HR.out.1⟩,HR.out.2⟩
theorem nV (s:ByteArray)(q:Nat)(hq:q<s.size)(W:World):(Instr.index 9 (.string s) (.int .i64 (q:Int))).run Tryz.prog W=.ok (.int .u8 ((nums s).getD q 0)) W:=by
 rw[run_index_string W _ _ _ _ Tryz.underlying9,dif_pos ⟨by omega,by omega⟩,←lp s q hq];rfl
theorem AK (y:Int)(h0:0≤y)(h1:y≤15)(W:World):(Instr.index 9 (.string ⟨#[48,49,50,51,52,53,54,55,56,57,97,98,99,100,101,102]⟩) (.int .u8 y)).run Tryz.prog W=.ok (.int .u8 (oB y)) W:=by
 obtain⟨q,rfl⟩:∃q:Nat,y=q:=⟨y.toNat,by omega⟩
 have hq:q<16:=by omega
 match q,hq with
 |0,_|1,_|2,_|3,_|4,_|5,_|6,_|7,_|8,_|9,_|10,_|11,_|12,_|13,_|14,_|15,_=>rw [run_index_string W _ _ _ _ Tryz.underlying9];rfl
 |q+16,h=>omega
theorem Ka (x:Int)(h0:0≤x)(h1:x≤255):bits .and .u8 x 15=x%16:=by
 obtain⟨n,rfl⟩:∃n:Nat,x=n:=⟨x.toNat,by omega⟩
 have hn:n<256:=by omega
 have:∀k:Fin 256,bits .and .u8 ((k:Nat):Int) 15=((k:Nat):Int)%16:=by decide+kernel
 exact this ⟨n,hn⟩
def dh (b:Bool)(l:List Int)(n:Nat):List Int:=letter b::32::ei (l.take n)
theorem rz:∀a c:List Int,ei (a++c)=ei a++ei c
 |[],_=>rfl
 |x::a,c=>by show oB _::oB _::ei (a++c)=_;rw[rz a c];rfl
theorem Ib (b:Bool)(l:List Int)(n:Nat)(h:n≤l.length):(dh b l n).length=2+2*n:=by
 unfold dh;simp[jw,Nat.min_eq_left h];omega
theorem Fa (b:Bool)(l:List Int)(n:Nat)(h:n<l.length):dh b l (n+1)=dh b l n++[oB (l.getD n 0/16),oB (l.getD n 0%16)]:=by
 unfold dh;rw[List.take_succ_eq_append_getElem h,rz,List.getD_eq_getElem?_getD,List.getElem?_eq_getElem h];rfl
theorem pL (w:World)(b:Bool)(s:ByteArray)(hs:s.size≤1000):
  Calls Tryz.prog 132 #[.int .u8 (letter b),.string s] w fun e w'=>e=.returned (.string (strOfNums (cI b s)))∧Below w.heap.size w w':=by
 obtain⟨i,hi,hz0,hz1,hz2⟩:=bB Tryz.kf
 have hl0:0≤letter b:=by unfold letter;split<;>omega
 have hl1:letter b≤255:=by unfold letter;split<;>omega
 have HS:Hid (∀q,q<s.size→(∀W:World,(Instr.index 9 (.string s) (.int .i64 (q:Int))).run Tryz.prog W=.ok (.int .u8 ((nums s).getD q 0)) W)∧0≤(nums s).getD q 0∧(nums s).getD q 0≤255):=fun q hq=>⟨nV s q hq,by rw[List.getD_eq_getElem?_getD,List.getElem?_eq_getElem (by rw[af];exact hq)];exact bt s _ (List.getElem_mem _)⟩
 have HN0:=hid (af s);have HE:Hid (cI b s=dh b (nums s) s.size++[10]):=by
  unfold cI dh;rw[←af s,List.take_length];rfl
 generalize hN:s.size=N at*
 obtain⟨ll,hll⟩:∃ll,nums s=ll:=⟨_,rfl⟩
 rw[hll]at HS HN0 HE;have HO:Hid ((w.alloc (.cells #[.int .u8 (letter b),.int .u8 32] 5)).ownsRow w.heap.size 5 1 (.slice (some ⟨w.heap.size,0,none⟩) 2 2) 2 ((dh b ll 0).map (Value.int .u8))):=
  ⟨by simp[dh,ei],Or.inr ⟨w.heap.size,2,#[.int .u8 (letter b),.int .u8 32],rfl,Nat.le_refl _,heap_alloc_new w _,Nat.le_refl _,by unfold maxLen;omega,by simp,by simp[dh,ei]⟩⟩
 generalize letter b=lt at*;go_in;go_wp2_with fail
 go_loopw [5,6,11] (fun v _ k wr=>∃n:Nat,n≤N∧k=.int .i64 n∧wr.ownsRow w.heap.size 5 1 v (2+2*n) ((dh b ll n).map (Value.int .u8))∧Below w.heap.size w wr) (fun _ _ k _=>N-(intOf k).toNat)
 case atStart=>exact ⟨0,by omega,rfl,HO.out,(Below.refl _ _).alloc (Nat.le_refl _) _⟩
 case round=>
  obtain⟨n,hn,rfl,hrow,BB⟩:=hrel
  obtain⟨gv,cv,rfl⟩:=aB hrow (by omega)
  have HB:Hid (Below w.heap.size w wr):=BB;have HR:=hid hrow;have hsz:=BB.size;clear BB hrow;by_cases hlt:n<N
  ·have hi1:(n:Int)<(N:Int):=by omega
   obtain⟨hx,hx0,hx1⟩:=HS.out n hlt
   have ha:=Ka (ll.getD n 0) hx0 hx1;have hd1:=AK (ll.getD n 0/16) (by omega) (by omega);have hd2:=AK (ll.getD n 0%16) (by omega) (by omega);have HPS:Hid (dh b ll (n+1)=dh b ll n++[oB (ll.getD n 0/16),oB (ll.getD n 0%16)]):=Fa b ll n (by have:=HN0.out;omega);have HLT:=hid hlt;have HF:Hid (∀(W:World) (o:Obj) (v6:Value) (w6:World),W.heap=(wr.alloc o).heap→W.os=wr.os→W.tape=wr.tape→W.output=wr.output→w6.ownsRow w.heap.size 5 1 v6 (2+2*n+2) ((dh b ll n).map (Value.int .u8)++[.int .u8 (oB (ll.getD n 0/16)),.int .u8 (oB (ll.getD n 0%16))])→W.grownBy w6 (some gv)→w6.ownsRow w.heap.size 5 1 v6 (2+2*(n+1)) ((dh b ll (n+1)).map (Value.int .u8))∧Below w.heap.size w w6):=by
    intro W o v6 w6 hW1 hW2 hW3 hW4 ho hg
    refine⟨?_,?_⟩
    ·rw[HPS.out,List.map_append];exact ho
    ·have hgv:w.heap.size≤gv:=(HR.out.lt gv rfl).1;have b1:Below w.heap.size w (wr.alloc o):=HB.out.alloc hsz _;have hs1:W.heap.size=(wr.alloc o).heap.size:=(by rw[hW1]);have hs2:w.heap.size≤W.heap.size:=by rw[hs1];simp;omega
     refine⟨hg.os.trans (hW2.trans HB.out.os),hg.tape.trans (hW3.trans HB.out.tape),hg.output.trans (hW4.trans HB.out.output),Nat.le_trans hs2 hg.size,fun k hk=> ?_⟩
     rw[hg.block k (by omega) (fun c=>by injection c;omega),hW1];exact b1.block k hk
   generalize ll.getD n 0=x at*;generalize oB (x/16)=d1 at*;generalize oB (x%16)=d2 at*;go_wp2_with fail
   go_region_law(refine fQ rfl (.tmp 14) (.tmp 25) 39 rfl w.heap.size 5 i _ 1 1 Tryz.underlying39 hi hz0 hz1 hz2 rfl (by decide) (.slice (some ⟨gv,0,none⟩) (2+2*n) cv) (2+2*n) ((dh b ll n).map (Value.int .u8)) (by simp[Act.eval]) (ay (HR.out.alloc (.cells #[.int .u8 d1,.int .u8 d2] 5)) (fun _ _=>rfl)) ⟨wr.heap.size,0,none⟩ 2 2 [.int .u8 d1,.int .u8 d2] (by simp[Act.eval]) rfl (gZ wr [.int .u8 d1,.int .u8 d2] 5 wr.heap.size rfl) (by intro u hu;simp at hu;rcases hu with rfl|rfl<;>rfl) (by unfold maxLen;omega) (by omega) (by simp;omega) ?_;intro v6 w6 ho6 hg6 hat6;obtain⟨g6,k6,rfl⟩:=aB ho6 (by omega);have HALL:Hid _:=HF.out _ (.cells #[.int .u8 d1,.int .u8 d2] 5) _ w6 (by rfl) (by rfl) (by rfl) (by rfl) ho6 hg6;clear ho6 hg6 hat6)
   all_goals
    go_wp2
    refine⟨⟨n+1,by have:=HLT.out;omega,by simp,HALL.out.1,HALL.out.2⟩,by have:=HLT.out;simp[intOf];omega⟩
  ·have hi1:¬(n:Int)<(N:Int):=(by omega);obtain rfl:n=N:=by omega
   have HF:Hid (∀(W:World) (o:Obj) (v6:Value) (w6:World),W.heap=(wr.alloc o).heap→W.os=wr.os→W.tape=wr.tape→W.output=wr.output→w6.ownsRow w.heap.size 5 1 v6 (2+2*n+1) ((dh b ll n).map (Value.int .u8)++[.int .u8 10])→W.grownBy w6 (some gv)→Below w.heap.size w w6∧(convert 39 9 v6).run Tryz.prog w6=.ok (.string (strOfNums (cI b s))) w6):=by
    intro W o v6 w6 hW1 hW2 hW3 hW4 ho hg
    refine⟨?_,?_⟩
    ·have hgv:w.heap.size≤gv:=(HR.out.lt gv rfl).1;have b1:Below w.heap.size w (wr.alloc o):=HB.out.alloc hsz _;have hs1:W.heap.size=(wr.alloc o).heap.size:=(by rw[hW1]);have hs2:w.heap.size≤W.heap.size:=by rw[hs1];simp;omega
     refine⟨hg.os.trans (hW2.trans HB.out.os),hg.tape.trans (hW3.trans HB.out.tape),hg.output.trans (hW4.trans HB.out.output),Nat.le_trans hs2 hg.size,fun k hk=> ?_⟩
     rw[hg.block k (by omega) (fun c=>by injection c;omega),hW1];exact b1.block k hk
    ·rw[show(dh b ll n).map (Value.int .u8)++[Value.int .u8 10]=(cI b s).map (Value.int .u8) by rw[HE.out,List.map_append];rfl]at ho;rcases aO ho with⟨_,h0⟩|⟨b',cap',rfl,hb',_,_,hc⟩
     ·omega
     ·have hlen:(cI b s).length=2+2*n+1:=by rw[HE.out,List.length_append,Ib b ll n (by have:=HN0.out;omega)];rfl
      rw[←hlen];exact run_convert_bytes_arg w6 39 5 Tryz.underlying39 Tryz.underlying5 b' 0 _ cap' (cI b s) rfl (fun j hj=>by
       rw[Nat.zero_add];exact hc j _ (by rw[List.getElem?_map,List.getElem?_eq_getElem hj,List.getD_eq_getElem?_getD,List.getElem?_eq_getElem hj];rfl)) 9 Tryz.underlying9
   obtain⟨res,hres⟩:∃r,strOfNums (cI b s)=r:=⟨_,rfl⟩
   rw[hres]at HF;have HRES:=hid hres;clear hres;go_wp2_with(at_builtin;refine wpList_append_own _ rfl _ _ 39 rfl w.heap.size 5 i _ 1 1 Tryz.underlying39 hi hz0 hz1 hz2 rfl (by decide) (.slice (some ⟨gv,0,none⟩) (2+2*n) cv) (2+2*n) ((dh b ll n).map (Value.int .u8)) rfl (HR.out.alloc (.cells #[.int .u8 10] 5)) ⟨wr.heap.size,0,none⟩ 1 1 [.int .u8 10] rfl rfl (kG wr [.int .u8 10] 5) (by intro u hu;simp at hu;rcases hu with rfl;rfl) (by unfold maxLen;omega) (by omega) (by simp;omega) ?_)
   intro v6 w6 ho6 hg6 hat6
   obtain⟨g6,k6,rfl⟩:=aB ho6 (by omega)
   obtain⟨hB6,hcv⟩:=HF.out _ (.cells #[.int .u8 10] 5) _ w6 (by rfl) (by rfl) (by rfl) (by rfl) ho6 hg6
   have HALL:Hid _:=hB6;clear ho6 hg6 hat6 hB6;go_wp2;go_ret;rw[HRES.out]
   exact⟨rfl,HALL.out⟩
theorem Fb:(Tryz.prog.info? 200).map (·.size)=some 2:=by kernel_rfl
theorem Kb:liesAt Tryz.prog Tryz.prog.depth 200 (2/Tryz.prog.cellsOf 200) 0 200 1=true:=by kernel_rfl
theorem uL (b:Nat)(w:World)(h0:w.cell? ⟨b,0,none⟩=some (.pointer (some ⟨b,0,none⟩))):
  Calls Tryz.prog 174 #[.pointer (some ⟨b,0,none⟩)] w fun e w'=>e=.returned (.tuple #[])∧w'=w:=by
 obtain⟨j,hj,_⟩:=Option.map_eq_some_iff.1 Fb
 go_in;go_wp2;rw[Lib.run_neq_ptr_same w _ Tryz.underlying198 hj];go_wp2;go_end0
 exact⟨rfl,rfl⟩
theorem sj (b:Nat)(w:World)(h0:w.cell? ⟨b,0,none⟩=some (.pointer none))(hsh:w.shape? b=some (200,2))(hfz:w.frozen? ⟨b,0,none⟩=false):
  Calls Tryz.prog 174 #[.pointer (some ⟨b,0,none⟩)] w fun e w'=>e=.returned (.tuple #[])∧w'=w.setCell ⟨b,0,none⟩ (.pointer (some ⟨b,0,none⟩)):=by
 obtain⟨j,hj,hjs⟩:=Option.map_eq_some_iff.1 Fb
 go_in;go_wp2;rw[Lib.run_to_unsafe w ⟨b,0,none⟩ Tryz.underlying198 Tryz.underlying251 hj (by rw[hjs];decide) hsh (Nat.zero_lt_succ 1)];simp only[Result.andThen];rw[Oper.upon_value];go_wp2;rw[run_callFunc_extern Tryz.func195 (by kernel_rfl) (by kernel_rfl) (by kernel_rfl) (e:=Extern.AbiNoEscape.same) (by kernel_rfl)];rw[Lib.run_noEscape];simp only[Result.andThen];rw[Oper.upon_value];go_wp2;rw[Lib.run_from_unsafe w ⟨b,0,none⟩ Tryz.underlying251 Tryz.underlying198 hj hsh Kb];simp only[Result.andThen];rw[Oper.upon_value];go_wp2;go_end0
 exact⟨rfl,rfl⟩
theorem xu (B b:Nat)(bs:List Value)(w:World)(h:Lib.IsBuilder 200 5 B b bs w):
  Calls Tryz.prog 174 #[.pointer (some ⟨b,0,none⟩)] w fun e w'=>e=.returned (.tuple #[])∧(Lib.BuilderAt 200 5 B b (.pointer (some ⟨b,0,none⟩)) bs w'∧Below B w w'):=by
 rcases h with h|h
 ·refine(sj b w h.cell0 h.shape h.frozen0).mono ?_
  rintro e w' ⟨rfl,rfl⟩
  exact⟨rfl,h.used _,(Below.refl B w).setCell (p:=⟨b,0,none⟩) h.1 _⟩
 ·refine(uL b w h.cell0).mono ?_
  rintro e w' ⟨rfl,rfl⟩
  exact⟨rfl,h,Below.refl B _⟩
theorem xw (B b:Nat)(bs:List Value)(s:ByteArray)(w:World)(h:Lib.IsBuilder 200 5 B b bs w)(hlen:bs.length+s.size≤140737488355328)(hBw:B≤w.heap.size):
  Calls Tryz.prog 131 #[.pointer (some ⟨b,0,none⟩),.string s] w fun e w'=>e=.returned (.tuple #[.int .i64 s.size,.nilIface])∧(Lib.BuilderAt 200 5 B b (.pointer (some ⟨b,0,none⟩)) (bs++Lib.strCells s) w'∧Below B w w'):=by
 obtain⟨i0,hi,hz0,hz1,hz2⟩:=bB Tryz.kf
 have HC:=hid (xu B b bs w h);go_in;go_wp2_with fail
 refine HC.out.mono ?_;rintro e w1 ⟨rfl,h1,hb1⟩
 obtain⟨hB,v,hbk,hown,hne⟩:=h1
 have c0:w1.cell? ⟨b,0,none⟩=some (.pointer (some ⟨b,0,none⟩)):=by rw[Lib.cell_of_heap hbk];rfl
 have c1:w1.cell? ⟨b,1,none⟩=some v:=by rw[Lib.cell_of_heap hbk];rfl
 go_wp2_with(at_builtin;refine Lib.wpList_append_own_string _ rfl _ _ 39 9 rfl B 5 i0 Tryz.underlying39 Tryz.underlying9 hi hz0 hz1 hz2 _ _ _ rfl hown s rfl ?c3 ?c4 ?c5 ?_)
 case c3=>unfold maxLen;omega
 case c4=>omega
 case c5=>have:=hb1.size;omega
 intro v' w2 hown' hgrow _;have hlt:b<w1.heap.size:=by
  rcases Nat.lt_or_ge b w1.heap.size with h'|h'
  ·exact h'
  ·simp[Array.getElem?_eq_none h']at hbk
 have hb2:w2.heap[b]?=some (.cells #[.pointer (some ⟨b,0,none⟩),v] 200 (0,0)):=by
  rw[hgrow.block b hlt (fun e=>hne e.symm)];exact hbk
 have d0:w2.cell? ⟨b,0,none⟩=some (.pointer (some ⟨b,0,none⟩)):=by rw[Lib.cell_of_heap hb2];rfl
 have d1:w2.cell? ⟨b,1,none⟩=some v:=by rw[Lib.cell_of_heap hb2];rfl
 have f1:=Lib.frozen_of_heap hb2 1
 obtain⟨ao,n',cap,rfl⟩:∃ao n' cap,v'=.slice ao n' cap:=by
  rcases hown'.2 with⟨hv,_⟩|⟨g,cap,cur,hv,_⟩
  ·exact⟨_,_,_,hv⟩
  ·exact⟨_,_,_,hv⟩
 go_wp2;go_ret2
 refine⟨rfl,?_,?_⟩
 ·exact Lib.BuilderAt.put (T:=200) (e:=5) hB hb2 (bs':=bs++Lib.strCells s) (by simpa[Lib.strCells_length]using hown') (by decide)
 ·exact(hb1.grown hgrow (by have:=hb1.size;omega) (fun k hk=>(hown.lt k hk).1)).setCell (p:=⟨b,1,none⟩) hB _
theorem AL {R:ByteArray→Sh}{h:HS}(p:cE R h)(n:Nat)(b:Bool)(s:ByteArray)(hn:h.az[n]?=some (b,s)):
  s.size≤24∧(if b then((h.az.take n).filterMap nE).length<h.kept.length∧(h.kept.getD ((h.az.take n).filterMap nE).length fV).text=s
   else((h.az.take n).filterMap nu).length<h.found.length∧(h.found.getD ((h.az.take n).filterMap nu).length mY).text=s):=by
 obtain⟨hlt,hx⟩:=List.getElem?_eq_some_iff.1 hn
 have hsp:h.az=h.az.take n++(b,s)::h.az.drop (n+1):=by rw[←hx,List.getElem_cons_drop,List.take_append_drop]
 cases b with
 |true=>
  have hk:=p.wz;rw[hsp,List.filterMap_append,List.filterMap_cons]at hk;have e:nE (true,s)=some s:=rfl;rw[e]at hk;have hlen:=congrArg List.length hk;rw[List.length_append,List.length_map]at hlen;simp at hlen;have hi:((h.az.take n).filterMap nE).length<h.kept.length:=by omega
  have hg:(h.kept.map (·.text))[((h.az.take n).filterMap nE).length]?=some s:=by rw[←hk,List.getElem?_append_right (Nat.le_refl _),Nat.sub_self];rfl
  rw[List.getElem?_map,List.getElem?_eq_getElem hi]at hg;simp at hg;have h24:=(p.kept _ _ (List.getElem?_eq_getElem hi)).1;rw[hg]at h24
  refine⟨h24,?_⟩
  rw[if_pos rfl]
  refine⟨hi,?_⟩
  rw[List.getD_eq_getElem?_getD,List.getElem?_eq_getElem hi];exact hg
 |false=>
  have hk:=p.wA;rw[hsp,List.filterMap_append,List.filterMap_cons]at hk;have e:nu (false,s)=some s:=rfl;rw[e]at hk;have hlen:=congrArg List.length hk;rw[List.length_append,List.length_map]at hlen;simp at hlen;have hi:((h.az.take n).filterMap nu).length<h.found.length:=by omega
  have hg:(h.found.map (·.text))[((h.az.take n).filterMap nu).length]?=some s:=by rw[←hk,List.getElem?_append_right (Nat.le_refl _),Nat.sub_self];rfl
  rw[List.getElem?_map,List.getElem?_eq_getElem hi]at hg;simp at hg;have h24:=(p.found _ _ (List.getElem?_eq_getElem hi)).1;rw[hg]at h24
  refine⟨h24,?_⟩
  rw[if_neg (by decide)]
  refine⟨hi,?_⟩
  rw[List.getD_eq_getElem?_getD,List.getElem?_eq_getElem hi];exact hg
def ni (l:List (Bool×ByteArray)):List UInt8:=l.flatMap fun x=>(strOfNums (cI x.1 x.2)).data.toList
theorem AM:∀l,ni l=(strOfNums (gQ l)).data.toList
 |[]=>rfl
 |x::l=>by
  show(strOfNums (cI x.1 x.2)).data.toList++ni l=(strOfNums (cI x.1 x.2++gQ l)).data.toList
  rw[AM l];simp[strOfNums]
theorem xx:∀l:List (Bool×ByteArray),(∀x∈l,x.2.size≤24)→(ni l).length≤51*l.length
 |[],_=>by simp[ni]
 |x::l,h=>by
  have ih:=xx l (fun y hy=>h y (List.mem_cons_of_mem _ hy));have hx:=h x (List.mem_cons_self ..);have e:(ni (x::l)).length=(strOfNums (cI x.1 x.2)).size+(ni l).length:=by show((strOfNums (cI x.1 x.2)).data.toList++ni l).length=_;rw[List.length_append,Array.length_toList];rfl
  rw[e,eZ]
  have:(cI x.1 x.2).length≤51:=by unfold cI;simp[jw,af];omega
  simp
  omega
theorem CU (l:List (Bool×ByteArray))(x:Bool×ByteArray):ni (l++[x])=ni l++(strOfNums (cI x.1 x.2)).data.toList:=by simp[ni]
theorem CV (b:Bool)(s:ByteArray)(hs:s.size≤24):(strOfNums (cI b s)).size≤51:=by
 rw[eZ];unfold cI;simp[jw,af];omega
theorem Fc {w:World}{U:Nat→Prop}{d:HD}{g:PG}{h:HS}(p:HU w U d g h)(n:Nat)(hn:n<h.found.length):
  Calls Tryz.prog 133 #[.pointer (some ⟨d.H,8,none⟩),.int .i64 (n:Nat)] w fun e w'=>e=.returned (.agg #[.string (h.found.getD n mY).text,.int .i64 (h.found.getD n mY).fault,.int .i64 (h.found.getD n mY).place])∧Below w.heap.size w w':=by
 have c8:w.cell? ⟨d.H,8,none⟩=some d.vf:=p.cell 8 (by omega);have hH:d.H<w.heap.size:=p.lt _ (p.dR _ (Or.inl rfl));rcases aO p.rf with⟨hv,h0⟩|⟨b,cap,hv,hb,hcap,hnc,hc⟩
 ·omega
 ·rw[hv]at c8
  obtain⟨f1,f2,f3⟩:=gT h.found n hn
  have c0:=hc _ _ f1;have c1:=hc _ _ f2;have c2:=hc _ _ f3;have hn':(n:Int)<(h.found.length:Int):=by omega
  have hmx:h.found.length≤9223372036854775807:=by unfold maxLen at hcap;omega
  clear p hc f1 f2 f3 hv;generalize h.found.length=m at*
  generalize(h.found.getD n mY).text=t at*
  generalize(h.found.getD n mY).fault=f at*
  generalize(h.found.getD n mY).place=q at*
  go_in;go_wp2;refine bodyPost_ret (v:=.agg #[.string t,.int .i64 f,.int .i64 q]) ?_ rfl ⟨rfl,?_⟩
  ·simp[results,Tryz.results133,go_sem]
  ·exact(Below.refl _ _).alloc (Nat.le_refl _) _
structure jC (lo:Nat) (U:Nat→Prop) (H:Nat) (g:PG) (h:HS) (w:World):Prop where
 hg:∃d,d.H=H∧HG w U d g h
 lo:∀k,U k→lo≤k
theorem jC.lt {lo:Nat}{U:Nat→Prop}{H:Nat}{g:PG}{h:HS}{w:World}(p:jC lo U H g h w):∀k,U k→k<w.heap.size:=by
 obtain⟨d,_,G⟩:=p.hg
 exact G.hu.lt
theorem jC.lo' {lo:Nat}{U:Nat→Prop}{H:Nat}{g:PG}{h:HS}{w:World}(p:jC lo U H g h w):lo≤w.heap.size:=by
 obtain⟨d,_,G⟩:=p.hg
 have h1:=G.hu.lt _ G.hu.kW;have h2:=p.lo _ G.hu.kW;omega
theorem jC.keep {lo:Nat}{U:Nat→Prop}{H:Nat}{g:PG}{h:HS}{w w':World}(p:jC lo U H g h w)(hb:∀k,U k→w'.heap[k]?=w.heap[k]?)(hs:w.heap.size≤w'.heap.size)(hT:bK w')(hM:kT w'):jC lo U H g h w':=by
 obtain⟨d,hd,G⟩:=p.hg
 exact⟨⟨d,hd,G.hu.keep hb (fun _ x=>x) (fun k hk=>Nat.lt_of_lt_of_le (G.hu.lt k hk) hs) G.hu.low,G.ok,G.inv,G.pos,hT,hM⟩,p.lo⟩
theorem jC.below {lo:Nat}{U:Nat→Prop}{H:Nat}{g:PG}{h:HS}{w w':World}(p:jC lo U H g h w)(b:Below w.heap.size w w'):jC lo U H g h w':=by
 obtain⟨d,hd,G⟩:=p.hg
 exact p.keep (fun k hk=>b.block k (G.hu.lt k hk)) b.size (G.tab.below b) (G.pI.below b G.pI.two)
theorem jC.tab {lo:Nat}{U:Nat→Prop}{H:Nat}{g:PG}{h:HS}{w:World}(p:jC lo U H g h w):bK w∧kT w:=by
 obtain⟨d,_,G⟩:=p.hg
 exact⟨G.tab,G.pI⟩
theorem jC.inv {lo:Nat}{U:Nat→Prop}{H:Nat}{g:PG}{h:HS}{w:World}(p:jC lo U H g h w):cE g.R h:=by
 obtain⟨d,_,G⟩:=p.hg
 exact G.inv
theorem jC.ok {lo:Nat}{U:Nat→Prop}{H:Nat}{g:PG}{h:HS}{w:World}(p:jC lo U H g h w):oM g:=by
 obtain⟨d,_,G⟩:=p.hg
 exact G.ok
theorem jC.wide {lo lo':Nat}{U:Nat→Prop}{H:Nat}{g:PG}{h:HS}{w:World}(p:jC lo U H g h w)(hl:lo'≤lo):jC lo' U H g h w:=⟨p.hg,fun k hk=>Nat.le_trans hl (p.lo k hk)⟩
theorem jC.other {lo lo2:Nat}{U V:Nat→Prop}{H H2:Nat}{g g2:PG}{h h2:HS}{w w':World}(p:jC lo U H g h w)(q:jC lo2 V H2 g2 h2 w')(f:Fr V w w')(hd:∀k,U k→¬V k):jC lo U H g h w':=p.keep (fun k hk=>f.block k (p.lt k hk) (hd k hk)) f.size q.tab.1 q.tab.2
theorem Made.pw {w w':World}{g:PG}{h:HS}{H:Nat}(m:Made w g h H w'):∃U,jC w.heap.size U H g h w':=by
 obtain⟨U,d,hd,G,hU⟩:=m.hg
 exact⟨U,⟨d,hd,G⟩,hU⟩
theorem Fr.low {U:Nat→Prop}{lo:Nat}{w w':World}(f:Fr U w w')(hU:∀k,U k→lo≤k)(hl:lo≤w.heap.size):Below lo w w':=
 ⟨f.os,f.tape,f.output,f.size,fun k hk=>f.block k (by omega) (fun c=>by have:=hU k c;omega)⟩
theorem jC.status {lo:Nat}{U:Nat→Prop}{H:Nat}{g:PG}{h:HS}{w:World}(p:jC lo U H g h w):
  Calls Tryz.prog 46 #[.pointer (some ⟨H,0,none⟩)] w fun e w'=>e=.returned (.agg #[.int .i64 h.tries,.int .i64 h.hangs,.int .i64 h.entry,.int .i64 h.changes])∧Below w.heap.size w w':=by
 obtain⟨d,rfl,G⟩:=p.hg
 exact xp G.hu
theorem jC.kh {lo:Nat}{U:Nat→Prop}{H:Nat}{g:PG}{h:HS}{w:World}(p:jC lo U H g h w):∃v G,KH w H v G h.kept:=by
 obtain⟨d,rfl,G⟩:=p.hg
 obtain⟨G',K⟩:=G.hu.kh (iJ g.mC G.inv)
 exact⟨_,_,K⟩
theorem CW (w:World)(H:Nat)(v:Value)(G:Nat→Nat)(l:List dQ)(K:KH w H v G l):
  Calls Tryz.prog 55 #[.pointer (some ⟨H,0,none⟩)] w fun e w'=>e=.returned (.slice (some ⟨w.heap.size,0,none⟩) 64 64)∧w'.heap[w.heap.size]?=some (.cells (gU (aS l)).toArray 5 (0,0))∧Below w.heap.size w w':=by
 have H0:=hid (kK w H);have H1:=hid (F0 w H v G l K);clear K;go_in;go_wp2_with fail
 refine H0.out.mono ?_;rintro e w1 ⟨rfl,hw⟩;obtain rfl:=hw.symm;go_wp2_with fail
 refine H1.out.mono ?_;rintro e w2 ⟨rfl,hr,hb⟩;have HR:Hid (w2.heap[w.heap.size]?=some (.cells (gU (aS l)).toArray 5 (0,0))∧Below w.heap.size w w2):=⟨hr,hb⟩;clear hr hb H1 H0;go_wp2_with fail
 go_ret
 exact⟨rfl,HR.out.1,HR.out.2⟩
theorem CX (w:World)(H:Nat)(v:Value)(G:Nat→Nat)(l:List dQ)(K:KH w H v G l)(hl:l.length≤1000):
  Calls Tryz.prog 48 #[.pointer (some ⟨H,0,none⟩)] w fun e w'=>e=.returned (.slice (some ⟨w.heap.size,0,none⟩) l.length l.length)∧w'.heap[w.heap.size]?=some (.cells (jY l.length (fun j=>(l.getD j fV).text)).toArray 9 (0,0))∧Below w.heap.size w w':=by
 have H0:=hid (kK w H);have H1:=hid (CS w H v G l K hl);clear K;generalize jY l.length (fun j=>(l.getD j fV).text)=X at*;generalize l.length=n at*;go_in;go_wp2_with fail
 refine H0.out.mono ?_;rintro e w1 ⟨rfl,hw⟩;obtain rfl:=hw.symm;go_wp2_with fail
 refine H1.out.mono ?_;rintro e w2 ⟨rfl,hr,hb⟩;have HR:Hid (w2.heap[w.heap.size]?=some (.cells X.toArray 9 (0,0))∧Below w.heap.size w w2):=⟨hr,hb⟩;clear hr hb H1 H0;go_wp2_with fail
 go_ret
 exact⟨rfl,HR.out.1,HR.out.2⟩
theorem jC.Ic {lo:Nat}{U:Nat→Prop}{H:Nat}{g:PG}{h:HS}{w:World}(p:jC lo U H g h w)(hl:h.found.length≤1000000):
  Calls Tryz.prog 52 #[.pointer (some ⟨H,0,none⟩)] w fun e w'=>(∃v,e=.returned v∧w'.ownsRow w.heap.size 67 3 v h.found.length (bH h.found))∧Below w.heap.size w w':=by
 have H0:=hid (kK w H);have H1:Hid (Calls Tryz.prog 93 #[.pointer (some ⟨H,0,none⟩)] w fun e w'=>(∃v,e=.returned v∧w'.ownsRow w.heap.size 67 3 v h.found.length (bH h.found))∧Below w.heap.size w w'):=by
  obtain⟨d,rfl,G⟩:=p.hg
  exact uK G.hu hl
 clear p hl;go_in;go_wp2_with fail
 refine H0.out.mono ?_;rintro e w1 ⟨rfl,hw⟩;obtain rfl:=hw.symm;go_wp2_with fail
 refine H1.out.mono ?_;rintro e w1 ⟨⟨v1,rfl,hc1⟩,B1⟩
 obtain⟨p1,c1,rfl⟩:=eC hc1
 have HR:Hid (w1.ownsRow w.heap.size 67 3 (.slice p1 h.found.length c1) h.found.length (bH h.found)∧Below w.heap.size w w1):=⟨hc1,B1⟩;clear hc1 B1 H0 H1;go_wp2_with fail
 go_ret
 exact⟨⟨_,rfl,HR.out.1⟩,HR.out.2⟩
end Go.Proofs.YtmpgjkhchfcjlaaGreatDoor
