import Derived.Test.YtmpgjkhchfcjlaaGreatDoorM31
namespace Go.Proofs.YtmpgjkhchfcjlaaGreatDoor
open Go.RowKit
set_option maxRecDepth 100000
set_option maxHeartbeats 2000000
section
variable {T:RT} {M:Nat} {w W w1:World} {F:Nat→Value} {X:Nat→List Value} {N:Nat→Nat}
theorem Sm.fr {U:Nat→Prop}(S:Sm w W):Fr U w W:=Fr.below (S.below _)
theorem OB.sm (h:OB T M w F X N)(S:Sm w W):OB T M W F X N:=h.keep (by rw[S.heap];exact Nat.le_refl _) (fun _ _=>by rw[S.heap])
theorem OB.alloc (h:OB T M w F X N)(o:Obj):OB T M (w.alloc o) F X N:=h.keep (by simp) (fun k hk=>Below.heap_alloc w o k (h.in hk))
theorem OB.got (h:OB T M w F X N)(r:Nat)(hr:T.row r=true)(hg:w.grownBy w1 (F r).ownBlock):w1.cell? ⟨M,r,none⟩=some (F r)∧w1.frozen? ⟨M,r,none⟩=false:=by
 have hM:some M≠(F r).ownBlock:=fun c=>h.nM r hr c.symm
 refine⟨hg.cell (a:=⟨M,r,none⟩) (h.cell r (h.Ek r hr)) hM,?_⟩
 rw[World.frozen?_of_block (w:=w) (a:=⟨M,r,none⟩) (hg.block M h.lt hM)];exact h.thaw r
theorem OB.Hz {v':Value}(_:OB T M w F X N)(r:Nat)(hr:T.row r=true)(hg:w.grownBy w1 (F r).ownBlock):Fr (iB T M F) w (w1.setCell ⟨M,r,none⟩ v'):=
 (Fr.grown hg (fun _ hk=>Or.inr ⟨r,hr,hk⟩)).same (Fr.set (Or.inl rfl) r v')
end
def tq:RT:=⟨10,fun r=>decide (r<10),IX,1⟩
def EB:ByteArray:=⟨#[111,118,101,114]⟩
def qZ (q p:Nat):Int:=if q=0 then(p:Int)else if q=2 then(p:Int)+1 else -2-(p:Int)
def eB (q p j:Nat):Value:=
 if q=0 then .int .u8 (wh p j)else if q=1 then .int .i64 (qZ 1 p)else if q=2 then .string (th (p+1))else if q=3 then(if j%3=0 then .string ⟨#[]⟩else .int .i64 (qZ 3 p))else if q=8 then .int .u8 251 else .string EB
def rU (q:Nat):Nat:=if q=3 then 3 else 1
def KJ (q:Nat):TypeId:=if q=0∨q=8 then 5 else if q=1 then 3 else if q=3 then 67 else 9
theorem eN {r:Nat}(h:r<10):tq.row r=true:=decide_eq_true h
def EC (w:World)(B:Nat→Prop)(M:Nat)(F:Nat→Value)(q p:Nat)(v:Value):Prop:=
 (∃n,w.ownsRow 0 (KJ q) (rU q) v n (gu (eB q p) (n*rU q)))∧∀g,v.ownBlock=some g→B g∧¬iB tq M F g
structure BB (w:World) (B:Nat→Prop) (M:Nat) (F:Nat→Value) (X:Nat→List Value):Prop where
 ob:OB tq M w F X (fun r=>(X r).length)
 rc:∀(q i:Nat) (v:Value),(q<4∨q=8∨q=9)→(X q)[i]?=some v→∃p,(q<4→(X (4+q))[i]?=some (.int .i64 (qZ q p))∧p≤(X (4+q)).length)∧EC w B M F q p v
 len:∀q,q<4→(X q).length=(X (4+q)).length
 ze:∀k,iB tq M F k→B k
 lt:∀k,B k→k<w.heap.size
 low:∀k,B k→3≤k
def Bk (w:World)(B:Nat→Prop)(M:Nat)(L:Nat→Nat):Prop:=∃F X,BB w B M F X∧∀r,(X r).length≤L r
def bump (L:Nat→Nat)(q:Nat):Nat→Nat:=fun r=>if r=q∨r=4+q then L r+4 else L r
section
variable {w w':World} {B B':Nat→Prop} {M:Nat} {F F':Nat→Value} {X:Nat→List Value}
theorem EC.keep {q p:Nat}{v:Value}(h:EC w B M F q p v)(hb:∀k,B k→¬iB tq M F k→w'.heap[k]?=w.heap[k]?)(hB:∀k,B k→B' k)(hF:∀k,B k→iB tq M F' k→iB tq M F k):EC w' B' M F' q p v:=
 ⟨h.1.elim fun n r=>⟨n,ay r (fun b e=>hb b (h.2 b e).1 (h.2 b e).2)⟩,fun g hg=>⟨hB g (h.2 g hg).1,fun c=>(h.2 g hg).2 (hF g (h.2 g hg).1 c)⟩⟩
theorem BB.keep (h:BB w B M F X)(hs:w.heap.size≤w'.heap.size)(hb:∀k,B k→w'.heap[k]?=w.heap[k]?)(hB:∀k,B k→B' k)(hl:∀k,B' k→k<w'.heap.size)(hl3:∀k,B' k→3≤k):BB w' B' M F X where
 ob:=h.ob.keep hs (fun k hk=>hb k (h.ze k hk))
 rc:=fun q i v hq hv=>(h.rc q i v hq hv).elim fun p ⟨h1,h2⟩=>⟨p,h1,h2.keep (fun k hk _=>hb k hk) hB (fun _ _ c=>c)⟩
 len:=h.len
 ze:=fun k hk=>hB k (h.ze k hk)
 lt:=hl
 low:=hl3
theorem Bk.keep {L:Nat→Nat}(h:Bk w B M L)(hs:w.heap.size≤w'.heap.size)(hb:∀k,B k→w'.heap[k]?=w.heap[k]?)(hB:∀k,B k→B' k)(hl:∀k,B' k→k<w'.heap.size)(hl3:∀k,B' k→3≤k):Bk w' B' M L:=by
 obtain⟨F,X,h,hL⟩:=h
 exact⟨F,X,h.keep hs hb hB hl hl3,hL⟩
theorem BB.three (h:BB w B M F X):3≤w.heap.size:=by
 have h1:=h.ob.lt;have h2:=h.low M (h.ze M (Or.inl rfl));omega
theorem BB.sm (h:BB w B M F X)(S:Sm w w'):BB w' B M F X:=h.keep (by rw[S.heap];exact Nat.le_refl _) (fun _ _=>by rw[S.heap]) (fun _ c=>c) (fun k hk=>by rw[S.heap];exact h.lt k hk) h.low
theorem JP (X:Nat→List Value)(r:Nat)(news:List Value):upd (fun r=>(X r).length) r ((X r).length+news.length)=fun s=>(upd X r (X r++news) s).length:=by
 funext s
 unfold upd;split
 ·rw[List.length_append]
 ·rfl
theorem uC {X:Nat→List Value}{r:Nat}{news:List Value}{s i:Nat}{u:Value}(h:(X s)[i]?=some u):(upd X r (X r++news) s)[i]?=some u:=by
 unfold upd;split
 ·rename_i c;subst c;rw[List.getElem?_append_left (List.getElem?_eq_some_iff.1 h).1];exact h
 ·exact h
theorem BB.grown {V:Nat→Prop}{X':Nat→List Value}(h:BB w B M F X)(hV:∀k,B k→V k)(hV3:∀k,V k→k<w.heap.size∧3≤k)(ob:OB tq M w' F' X' (fun r=>(X' r).length))(f:Fr V w w')(hb:∀k,B k→¬iB tq M F k→w'.heap[k]?=w.heap[k]?)(hF:∀k,iB tq M F' k→iB tq M F k∨w.heap.size≤k)(hlen:∀q,q<4→(X' q).length=(X' (4+q)).length)(hpre:∀(r i:Nat) (u:Value),(X r)[i]?=some u→(X' r)[i]?=some u)(hx:∀r,(X r).length≤(X' r).length)
  (hnew:∀(q i:Nat) (v:Value),(q<4∨q=8∨q=9)→(X q).length≤i→(X' q)[i]?=some v→∃p,(q<4→(X' (4+q))[i]?=some (.int .i64 (qZ q p))∧p≤(X' (4+q)).length)∧EC w' (Gr V w w') M F' q p v):BB w' (Gr V w w') M F' X' where
 ob:=ob
 rc:=fun q i v hq hv=>by
  by_cases c:i<(X q).length
  ·obtain⟨u,hu⟩:∃u,(X q)[i]?=some u:=⟨_,List.getElem?_eq_getElem c⟩
   have:=hpre q i u hu
   rw[hv]at this;injection this with this;subst this
   obtain⟨p,h1,h2⟩:=h.rc q i v hq hu
   exact⟨p,fun c=>⟨hpre _ _ _ (h1 c).1,Nat.le_trans (h1 c).2 (hx _)⟩,h2.keep hb (fun k hk=>Or.inl (hV k hk)) (fun k hk c=>(hF k c).elim id (fun d=>by have:=h.lt k hk;omega))⟩
  ·exact hnew q i v hq (by omega) hv
 len:=hlen
 ze:=fun k hk=>(hF k hk).elim (fun c=>Or.inl (hV k (h.ze k c))) (fun c=>Or.inr ⟨c,ob.in hk⟩)
 lt:=fun k hk=>hk.elim (fun c=>Nat.lt_of_lt_of_le (hV3 k c).1 f.size) (fun c=>c.2)
 low:=fun k hk=>hk.elim (fun c=>(hV3 k c).2) (fun c=>by have:=h.three;omega)
theorem BB.own (h:BB w B M F X)(q:Nat)(hq:q<4){v:Value}{n:Nat}{us:List Value}{w3 W3 w4 W4 w6:World}{o1 o2:Obj}{v4 v6:Value}(A:AP w w3 (KJ q) (rU q) (eB q (X (4+q)).length) v n us)(hv:∀g,v.ownBlock=some g→¬B g∧g<w.heap.size∧3≤g)
  (S3:Sm w3 W3)(g4:(W3.alloc o1).grownBy w4 (F q).ownBlock)(r4:w4.ownsRow 0 (IX q) 1 v4 ((X q).length+us.length) (X q++us))(a4:v4.ownBlock=(F q).ownBlock∨v4.ownBlock=some (W3.alloc o1).heap.size)
  (S4:Sm (w4.setCell ⟨M,q,none⟩ v4) W4)(g6:(W4.alloc o2).grownBy w6 (F (4+q)).ownBlock)(r6:w6.ownsRow 0 3 1 v6 ((X (4+q)).length+us.length) (X (4+q)++List.replicate us.length (.int .i64 (qZ q (X (4+q)).length))))(a6:v6.ownBlock=(F (4+q)).ownBlock∨v6.ownBlock=some (W4.alloc o2).heap.size):
  ∃F' X',BB (w6.setCell ⟨M,4+q,none⟩ v6) (Gr (fun k=>B k∨v.ownBlock=some k) w (w6.setCell ⟨M,4+q,none⟩ v6)) M F' X'∧(∀r,(X' r).length≤if r=q∨r=4+q then(X r).length+us.length else(X r).length)∧Fr (fun k=>B k∨v.ownBlock=some k) w (w6.setCell ⟨M,4+q,none⟩ v6):=by
 have hq4:4+q≠q:=by omega
 have hs3:=A.grown.size;have hs3':W3.heap.size=w3.heap.size:=by rw[S3.heap]
 have o3:=((h.ob.keep hs3 (fun k hk=>A.grown.block k (h.ob.in hk) (fun c=>(hv k c.symm).1 (h.ze k hk)))).sm S3).alloc o1;have o4:=(o3.grow q (eN (by omega)) v4 us us.length g4 r4 a4).sm S4;have e1:upd F q v4 (4+q)=F (4+q):=au _ _ hq4;have e2:IX (4+q)=3:=by unfold IX;rw[if_neg (by omega),if_neg (by omega),if_neg (by omega),if_neg (by omega)]
 rw[JP]at o4;have o6:=(o4.alloc o2).grow (4+q) (eN (by omega)) v6 (List.replicate us.length (.int .i64 (qZ q (X (4+q)).length))) (List.replicate us.length (Value.int .i64 (qZ q (X (4+q)).length))).length (by rw[e1];exact g6) (by rw[au _ _ hq4,List.length_replicate];show w6.ownsRow 0 (IX (4+q)) 1 _ _ _;rw[e2];exact r6) (by rw[e1];exact a6);rw[JP]at o6;have f4:=o3.Hz (v':=v4) q (eN (by omega)) g4;have f6:=(o4.alloc o2).Hz (v':=v6) (4+q) (eN (by omega)) (by rw[e1];exact g6);have s4:=f4.size;have s6:=f6.size;have hs4:W4.heap.size=(w4.setCell ⟨M,q,none⟩ v4).heap.size:=by rw[S4.heap]
 rw[World.size_alloc]at s4 s6;have k1:∀k,iB tq M (upd F q v4) k→iB tq M F k∨w3.heap.size≤k:=fun k hk=>(iB.grow (w:=W3.alloc o1) a4 (eN (by omega)) hk).imp id (fun c=>by rw[c,World.size_alloc];omega)
 have k2:∀k,iB tq M (upd (upd F q v4) (4+q) v6) k→iB tq M F k∨w3.heap.size≤k:=fun k hk=>(iB.grow (w:=W4.alloc o2) (by rw[e1];exact a6) (eN (by omega)) hk).elim (k1 k) (fun c=>Or.inr (by rw[c,World.size_alloc];omega))
 have b6:∀k,k<w3.heap.size→¬iB tq M F k→(w6.setCell ⟨M,4+q,none⟩ v6).heap[k]?=w3.heap[k]?:=fun k hk hn=>by
  rw[f6.block k (by rw[World.size_alloc];omega) (fun c=>(k1 k c).elim hn (fun d=>by omega)),Below.heap_alloc W4 o2 k (by omega),S4.heap,f4.block k (by rw[World.size_alloc];omega) hn,Below.heap_alloc W3 o1 k (by omega),S3.heap]
 have fr:Fr (fun k=>B k∨v.ownBlock=some k) w (w6.setCell ⟨M,4+q,none⟩ v6):=⟨f6.os.trans (S4.os.trans (f4.os.trans (S3.os.trans A.grown.os))),f6.tape.trans (S4.tape.trans (f4.tape.trans (S3.tape.trans A.grown.tape))),f6.output.trans (S4.output.trans (f4.output.trans (S3.output.trans A.grown.output))),by omega,fun k hk hn=>(b6 k (by omega) (fun c=>hn (Or.inl (h.ze k c)))).trans (A.grown.block k hk (fun c=>hn (Or.inr c.symm)))⟩
 refine⟨_,_,h.grown (fun k hk=>Or.inl hk) (fun k hk=>hk.elim (fun c=>⟨h.lt k c,h.low k c⟩) (fun c=>(hv k c).2)) o6 fr (fun k hk hn=> ?_) (fun k hk=>(k2 k hk).imp id (fun c=>by omega)) (fun r hr=> ?_) (fun r i u hu=> ?_) (fun r=> ?_) (fun r i u hr hi hu=> ?_),fun r=> ?_,fr⟩
 ·exact(b6 k (by have:=h.lt k hk;omega) hn).trans (A.grown.block k (h.lt k hk) (fun c=>(hv k c.symm).1 hk))
 ·have:=h.len r hr
  unfold upd;by_cases c:r=q
  ·subst c;rw[if_neg (by omega),if_pos rfl,if_pos rfl,if_neg (by omega),List.length_append,List.length_append,List.length_replicate];omega
  ·rw[if_neg (by omega),if_neg c,if_neg (by omega),if_neg (by omega)];exact this
 ·exact uC (uC hu)
 ·unfold upd;split
  ·rename_i c;subst c;rw[List.length_append];omega
  ·split
   ·rename_i c;subst c;rw[List.length_append];omega
   ·exact Nat.le_refl _
 ·by_cases c:r=q
  ·subst c;have hl:=h.len r hq;rw[au _ _ (fun c=>hq4 c.symm),upd_same,List.getElem?_append_right hi]at hu;have hul:=(List.getElem?_eq_some_iff.1 hu).1
   obtain⟨⟨k,hk⟩,hg⟩:=A.all u (List.mem_of_getElem? hu)
   refine⟨(X (4+r)).length,fun _=>⟨?_,?_⟩,⟨k,ay hk (fun b hb=>b6 b (aL hk hb) ?_)⟩,fun g e=>⟨?_,fun c=> ?_⟩⟩
   ·rw[upd_same,au _ _ hq4,List.getElem?_append_right (by omega),List.getElem?_replicate,if_pos (by omega)]
   ·rw[upd_same,au _ _ hq4,List.length_append];omega
   ·intro c;rcases hg b hb with d|d
    ·exact(hv b d).1 (h.ze b c)
    ·have:=h.ob.in c;omega
   ·rcases hg g e with d|d
    ·exact Or.inl (Or.inr d)
    ·exact Or.inr ⟨d,by have:=aL hk e;omega⟩
   ·rcases k2 g c with d|d
    ·rcases hg g e with b|b
     ·exact(hv g b).1 (h.ze g d)
     ·have:=h.ob.in d;omega
    ·have:=aL hk e;omega
  ·rw[au _ _ (by omega),au _ _ c,List.getElem?_eq_none hi]at hu;cases hu
 ·unfold upd;split
  ·rename_i c;subst c;rw[if_pos (Or.inr rfl),List.length_append,List.length_replicate];exact Nat.le_refl _
  ·split
   ·rename_i c;subst c;rw[if_pos (Or.inl rfl),List.length_append];exact Nat.le_refl _
   ·rename_i c1 c2;rw[if_neg (fun c=>c.elim c2 c1)];exact Nat.le_refl _
theorem BB.KL (h:BB w B M F X)(r:Nat)(hr:r=8∨r=9){v:Value}{n:Nat}{w3 W3 w4:World}{o1:Obj}{v4:Value}(hown:w3.ownsRow 0 (KJ r) (rU r) v n (gu (eB r 0) (n*rU r)))(hg:w.grownBy w3 v.ownBlock)(hv:∀g,v.ownBlock=some g→¬B g∧g<w.heap.size∧3≤g)
  (S3:Sm w3 W3)(g4:(W3.alloc o1).grownBy w4 (F r).ownBlock)(r4:w4.ownsRow 0 (IX r) 1 v4 ((X r).length+1) (X r++[v]))(a4:v4.ownBlock=(F r).ownBlock∨v4.ownBlock=some (W3.alloc o1).heap.size):
  ∃F' X',BB (w4.setCell ⟨M,r,none⟩ v4) (Gr (fun k=>B k∨v.ownBlock=some k) w (w4.setCell ⟨M,r,none⟩ v4)) M F' X'∧(∀s,(X' s).length≤if s=r then(X s).length+1 else(X s).length)∧Fr (fun k=>B k∨v.ownBlock=some k) w (w4.setCell ⟨M,r,none⟩ v4):=by
 have hs3:=hg.size;have hs3':W3.heap.size=w3.heap.size:=by rw[S3.heap]
 have o3:=((h.ob.keep hs3 (fun k hk=>hg.block k (h.ob.in hk) (fun c=>(hv k c.symm).1 (h.ze k hk)))).sm S3).alloc o1;have o4:=o3.grow r (eN (by omega)) v4 [v] [v].length g4 r4 a4;rw[JP]at o4;have f4:=o3.Hz (v':=v4) r (eN (by omega)) g4;have s4:=f4.size;rw[World.size_alloc]at s4;have k1:∀k,iB tq M (upd F r v4) k→iB tq M F k∨w3.heap.size≤k:=fun k hk=>(iB.grow (w:=W3.alloc o1) a4 (eN (by omega)) hk).imp id (fun c=>by rw[c,World.size_alloc];omega)
 have b6:∀k,k<w3.heap.size→¬iB tq M F k→(w4.setCell ⟨M,r,none⟩ v4).heap[k]?=w3.heap[k]?:=fun k hk hn=>by
  rw[f4.block k (by rw[World.size_alloc];omega) hn,Below.heap_alloc W3 o1 k (by omega),S3.heap]
 have fr:Fr (fun k=>B k∨v.ownBlock=some k) w (w4.setCell ⟨M,r,none⟩ v4):=⟨f4.os.trans (S3.os.trans hg.os),f4.tape.trans (S3.tape.trans hg.tape),f4.output.trans (S3.output.trans hg.output),by omega,fun k hk hn=>(b6 k (by omega) (fun c=>hn (Or.inl (h.ze k c)))).trans (hg.block k hk (fun c=>hn (Or.inr c.symm)))⟩
 refine⟨_,_,h.grown (fun k hk=>Or.inl hk) (fun k hk=>hk.elim (fun c=>⟨h.lt k c,h.low k c⟩) (fun c=>(hv k c).2)) o4 fr (fun k hk hn=> ?_) (fun k hk=>(k1 k hk).imp id (fun c=>by omega)) (fun s hs=> ?_) (fun s i u hu=>uC hu) (fun s=> ?_) (fun s i u hs hi hu=> ?_),fun s=> ?_,fr⟩
 ·exact(b6 k (by have:=h.lt k hk;omega) hn).trans (hg.block k (h.lt k hk) (fun c=>(hv k c.symm).1 hk))
 ·rw[au _ _ (by omega),au _ _ (by omega)];exact h.len s hs
 ·unfold upd;split
  ·rename_i c;subst c;rw[List.length_append];omega
  ·exact Nat.le_refl _
 ·by_cases c:s=r
  ·subst c;rw[upd_same,List.getElem?_append_right hi]at hu;obtain rfl:=List.mem_singleton.1 (List.mem_of_getElem? hu)
   refine⟨0,fun c=>by omega,⟨n,ay hown (fun b hb=>b6 b (aL hown hb) (fun c=>(hv b hb).1 (h.ze b c)))⟩,fun g e=>⟨Or.inl (Or.inr e),fun c=> ?_⟩⟩
   rcases k1 g c with d|d
   ·exact(hv g e).1 (h.ze g d)
   ·have:=(hv g e).2;omega
  ·rw[au _ _ c,List.getElem?_eq_none hi]at hu;cases hu
 ·unfold upd;split
  ·rename_i c;subst c;rw[List.length_append];exact Nat.le_refl _
  ·exact Nat.le_refl _
end
def mh (l:Nat→Int)(n:Nat)(x r:Int):Prop:=(∃i:Nat,i<n∧l i=x∧(∀j,j<i→l j≠x)∧r=i)∨((∀j,j<n→l j≠x)∧r= -1)
theorem oQ (w:World)(v:Value)(n:Nat)(l:Nat→Int)(C:gO w v n l)(hn:n≤1000)(x:Int):
  Calls Tryz.prog 60 #[v,.int .i64 x] w fun e w'=>w'=w∧∃r,mh l n x r∧e=.returned (.int .i64 r):=by
 cases C with
 |bare p cap hv hL=>
  subst hv hL;have HR:Hid (mh l 0 x (-1)):=Or.inr ⟨fun j h=>by omega,rfl⟩;go_in;go_wp2_with fail
  go_loopw [5] (fun i wr=>i=.int .i64 0∧wr=w) (fun _ _=>0)
  case atStart=>exact ⟨rfl,rfl⟩
  case round=>
   obtain⟨rfl,rfl⟩:=hrel
   go_wp2_with fail
   go_ret
   exact⟨rfl,_,HR.out,rfl⟩
 |full g o cap hv hc hr hr' h0=>
  subst hv;have HC:=hid hc;clear hc;go_in;go_wp2_with fail
  go_loopw [5] (fun i wr=>∃k:Nat,k≤n∧i=.int .i64 k∧(∀j,j<k→l j≠x)∧wr=w) (fun i _=>n-(intOf i).toNat)
  case atStart=>exact ⟨0,by omega,rfl,fun j h=>by omega,rfl⟩
  case round=>
   obtain⟨k,hk,rfl,hne,rfl⟩:=hrel
   by_cases hkn:k<n
   ·have ck:=HC.out k hkn;have hi1:(k:Int)<(n:Int):=(by omega);by_cases hx:l k=x
    ·have HR:Hid (mh l n x (k:Int)):=Or.inl ⟨k,hkn,hx,hne,rfl⟩;rw[hx]at ck;clear hne hx;go_wp2_with fail
     go_ret
     exact⟨rfl,_,HR.out,rfl⟩
    ·have hb:(l k==x)=false:=by rw[beq_eq_false_iff_ne];exact hx
     have HN:Hid (∀j,j<k+1→l j≠x):=fun j hj=>by
      by_cases e:j=k
      ·subst e;exact hx
      ·exact hne j (by omega)
     clear hne;generalize l k=y at*;go_wp2_with fail
     go_roundw
     case rel=>exact ⟨k+1,by omega,by go_num,HN.out,by first|rfl|trivial⟩
     case measure=>simp [intOf];omega
   ·have e:k=n:=(by omega);subst e;have HR:Hid (mh l k x (-1)):=Or.inr ⟨hne,rfl⟩;have hnn:¬(k:Int)<(k:Int):=(by omega);clear hne;go_wp2_with fail
    go_ret
    exact⟨rfl,_,HR.out,rfl⟩
theorem kU (w:World)(u v:Value)(n:Nat)(l:Nat→Int)(C:gO w u n l)(D:gO w v n l)(hn:n≤1000):
  Calls Tryz.prog 29 #[u,v] w fun e w'=>Sm w w'∧e=.returned (.bool true):=by
 cases C with
 |bare p cap hv hL=>
  subst hv hL
  obtain⟨q,cap2,rfl⟩:∃q c,v=.slice q 0 c:=by
   cases D with
   |bare p cap hv _=>exact ⟨_,_,hv⟩
   |full g o cap hv hc hr hr' h0=>omega
  clear D;go_in;go_wp2_with fail
  go_loopw [5] (fun i wr=>i=.int .i64 0∧wr=w) (fun _ _=>0)
  case atStart=>exact ⟨rfl,rfl⟩
  case round=>
   obtain⟨rfl,rfl⟩:=hrel
   go_wp2_with fail
   go_ret
   exact⟨Sm.refl _,rfl⟩
 |full g o cap hv hc hr hr' h0=>
  subst hv
  cases D with
  |bare p cap hv hL=>omega
  |full g2 o2 cap2 hv2 hc2 hr2 hr2' _=>
   subst hv2;have HC:=hid hc;have HC2:=hid hc2;clear hc hc2;go_in;go_wp2_with fail
   go_loopw [5] (fun i wr=>∃k:Nat,k≤n∧i=.int .i64 k∧Sm w wr) (fun i _=>n-(intOf i).toNat)
   case atStart=>exact ⟨0,by omega,rfl,Sm.refl _⟩
   case round=>
    obtain⟨k,hk,rfl,hS⟩:=hrel
    have HS:=hid hS;by_cases hkn:k<n
    ·have ck:wr.cell? ⟨g,o+k,none⟩=some (.int .i64 (l k)):=(World.cell?_of_block (w:=w) (a:=⟨g,o+k,none⟩) (by rw[hS.heap])).trans (HC.out k hkn);have ck2:wr.cell? ⟨g2,o2+k,none⟩=some (.int .i64 (l k)):=(World.cell?_of_block (w:=w) (a:=⟨g2,o2+k,none⟩) (by rw[hS.heap])).trans (HC2.out k hkn);clear hS;have hi1:(k:Int)<(n:Int):=(by omega);generalize l k=y at*;go_wp2_with fail
     go_quiet(fail)
     go_wp2_with fail
     go_roundw
     case rel=>exact ⟨k+1,by omega,by go_num,HS.out.drewN _⟩
     case measure=>simp [intOf];omega
    ·have e:k=n:=(by omega);subst e;have hnn:¬(k:Int)<(k:Int):=(by omega);clear hS;go_wp2_with fail
     go_ret
     exact⟨HS.out,rfl⟩
theorem cS {w wr:World}(B:Below w.heap.size w wr){a:Addr}{v:Value}(h:w.cell? a=some v):wr.cell? a=some v:=(B.cell (block_lt_of_cell h)).trans h
structure J8 (w:World) (M q i len p:Nat) (g cap:Nat) (ao:Option Addr) (n cp:Nat):Prop where
 head:w.cell? ⟨M,q,none⟩=some (.slice (some ⟨g,0,none⟩) len cap)
 cell:w.cell? ⟨g,i,none⟩=some (.slice ao n cp)
 most:n≤cp∧cp≤9223372036854775807
 row:∀j,j<n→∃b,ao=some ⟨b,0,none⟩∧∀c,c<rU q→w.cell? ⟨b,j*rU q+c,none⟩=some (eB q p (j*rU q+c))
theorem BB.head {w:World}{B:Nat→Prop}{M:Nat}{F:Nat→Value}{X:Nat→List Value}(h:BB w B M F X)(q:Nat)(hq:q<10):∃ao cap,w.cell? ⟨M,q,none⟩=some (.slice ao (X q).length cap):=by
 have hc:=h.ob.cell q hq;rcases aO (h.ob.own q (eN hq))with⟨e,e0⟩|⟨b,cap,e,_⟩
 ·exact⟨none,0,by rw[hc,e];rw[e0]⟩
 ·exact⟨_,cap,by rw[hc,e]⟩
theorem BB.at {w:World}{B:Nat→Prop}{M:Nat}{F:Nat→Value}{X:Nat→List Value}(h:BB w B M F X)(q:Nat)(hq:q<4∨q=8∨q=9){i:Nat}(hi:i<(X q).length):
  ∃p g cap ao n cp,J8 w M q i (X q).length p g cap ao n cp∧(q<4→∃g4 cap4,w.cell? ⟨M,4+q,none⟩=some (.slice (some ⟨g4,0,none⟩) (X q).length cap4)∧w.cell? ⟨g4,i,none⟩=some (.int .i64 (qZ q p))∧p≤(X q).length):=by
 obtain⟨p,h1,⟨n,ho⟩,_⟩:=h.rc q i _ hq (List.getElem?_eq_getElem hi)
 have hh:=h.ob.cell q (by show q<10;omega);rcases aO (h.ob.own q (eN (by omega)))with⟨_,e0⟩|⟨g,cap,e,_,_,_,hc⟩
 ·omega
 rw[e]at hh;have hcc:=hc i _ (List.getElem?_eq_getElem hi);have h4:q<4→∃g4 cap4,w.cell? ⟨M,4+q,none⟩=some (.slice (some ⟨g4,0,none⟩) (X q).length cap4)∧w.cell? ⟨g4,i,none⟩=some (.int .i64 (qZ q p))∧p≤(X q).length:=fun c=>by
  obtain⟨m1,m2⟩:=h1 c
  have hl:=h.len q c;have hh4:=h.ob.cell (4+q) (by show 4+q<10;omega);rcases aO (h.ob.own (4+q) (eN (by omega)))with⟨_,e0⟩|⟨g4,cap4,e4,_,_,_,hc4⟩
  ·omega
  ·exact⟨g4,cap4,by rw[hh4,e4,hl],hc4 i _ m1,by omega⟩
 have rw':∀(b:Nat),(∀(i:Nat) (u:Value),(gu (eB q p) (n*rU q))[i]?=some u→w.cell? ⟨b,i,none⟩=some u)→∀j,j<n→∀c,c<rU q→w.cell? ⟨b,j*rU q+c,none⟩=some (eB q p (j*rU q+c)):=fun b hb j hj c hc=>hb _ _ (qj _ (by
  have:=Nat.mul_le_mul_right (rU q) (show j+1≤n by omega)
  rw[Nat.add_mul]at this
  omega))
 rcases aO ho with⟨e0,n0⟩|⟨b,cp,e0,_,hm,hn,hb⟩
 ·subst n0
  exact⟨p,g,cap,none,0,0,⟨hh,by rw[hcc,e0],⟨Nat.le_refl _,by omega⟩,fun j hj=>by omega⟩,h4⟩
 ·exact⟨p,g,cap,_,n,cp,⟨hh,by rw[hcc,e0],⟨hn,hm⟩,fun j hj=>⟨b,rfl,rw' b hb j hj⟩⟩,h4⟩
theorem CF {w:World}{B:Nat→Prop}{M:Nat}{F:Nat→Value}{X:Nat→List Value}(h:BB w B M F X)(hL8:(X 8).length≤4611686018427387904)(hL9:(X 9).length≤4611686018427387904):
  Calls Tryz.prog 20 #[.pointer (some ⟨M,0,none⟩)] w fun e w'=>e=.returned (.bool true)∧Sm w w':=by
 have H8:Hid (∀i,i<(X 8).length→∃p g cap ao n cp,J8 w M 8 i (X 8).length p g cap ao n cp):=fun i hi=>by
  obtain⟨p,g,cap,ao,n,cp,A,_⟩:=h.at 8 (by omega) hi
  exact⟨p,g,cap,ao,n,cp,A⟩
 have H9:Hid (∀i,i<(X 9).length→∃p g cap ao n cp,J8 w M 9 i (X 9).length p g cap ao n cp):=fun i hi=>by
  obtain⟨p,g,cap,ao,n,cp,A,_⟩:=h.at 9 (by omega) hi
  exact⟨p,g,cap,ao,n,cp,A⟩
 obtain⟨a8,c8,h8⟩:=h.head 8 (by omega)
 obtain⟨a9,c9,h9⟩:=h.head 9 (by omega)
 have E8:=hid h8;have E9:=hid h9;clear h h8 h9
 generalize(X 8).length=n8 at*
 generalize(X 9).length=n9 at*
 go_in;go_wp2_with fail
 go_loopw [3,4] (fun i _ wr=>∃k:Nat,k≤n8∧i=.int .i64 k∧Sm w wr) (fun i _ _=>n8-(intOf i).toNat)
 case atStart=>exact ⟨0,by omega,rfl,Sm.refl w⟩
 case round=>
  obtain⟨k,hk,rfl,hS⟩:=hrel
  have HS:=hid hS;by_cases hlt:k<n8
  ·obtain⟨p,g,cap,ao,n,cp,A⟩:=H8.out k hlt
   have HA:=hid A;have hn:=A.most;have c1:=hS.cell A.head;have c2:=hS.cell A.cell;have hi1:(k:Int)<(n8:Int):=(by omega);clear A hS;go_wp2_with fail
   go_loopw [4] (fun j wx=>∃q:Nat,q≤n∧j=.int .i64 q∧Sm w wx) (fun j _=>n-(intOf j).toNat)
   case atStart=>exact ⟨0,by omega,rfl,HS.out⟩
   case round=>
    clear HS c1 c2
    obtain⟨q,hq,rfl,hS⟩:=hrel
    have HS:=hid hS;have c1:=hS.cell HA.out.head;have c2:=hS.cell HA.out.cell;by_cases hql:q<n
    ·obtain⟨b,rfl,hb⟩:=HA.out.row q hql
     have c3:wr.cell? ⟨b,q,none⟩=some (.int .u8 251):=by
      have:=hS.cell (hb 0 (by decide))
      rw[show q*rU 8+0=q from by show q*1+0=q;omega]at this;exact this
     have hi2:(q:Int)<(n:Int):=(by omega);clear hS hb;go_wp2_with fail
     go_roundw
     case rel=>exact ⟨q+1,by omega,by go_num,HS.out⟩
     case measure=>simp [intOf];omega
    ·obtain rfl:q=n:=by omega
     have hnn:¬(q:Int)<(q:Int):=(by omega);clear hS;go_wp2_with fail
     go_roundw
     case rel=>exact ⟨k+1,by omega,by go_num,HS.out⟩
     case measure=>simp [intOf];omega
  ·obtain rfl:k=n8:=by omega
   have hnn:¬(k:Int)<(k:Int):=(by omega);have c1:=hS.cell E8.out;clear hS;go_wp2_with fail
   go_loopw [5,6] (fun i _ wr=>∃k:Nat,k≤n9∧i=.int .i64 k∧Sm w wr) (fun i _ _=>n9-(intOf i).toNat)
   case atStart=>exact ⟨0,by omega,rfl,HS.out⟩
   case round=>
    clear HS hnn c1 E8
    obtain⟨k,hk,rfl,hS⟩:=hrel
    have HS:=hid hS;by_cases hlt:k<n9
    ·obtain⟨p,g,cap,ao,n,cp,A⟩:=H9.out k hlt
     have HA:=hid A;have hn:=A.most;have c1:=hS.cell A.head;have c2:=hS.cell A.cell;have hi1:(k:Int)<(n9:Int):=(by omega);clear A hS;go_wp2_with fail
     go_loopw [6] (fun j wx=>∃q:Nat,q≤n∧j=.int .i64 q∧Sm w wx) (fun j _=>n-(intOf j).toNat)
     case atStart=>exact ⟨0,by omega,rfl,HS.out⟩
     case round=>
      clear HS c1 c2
      obtain⟨q,hq,rfl,hS⟩:=hrel
      have HS:=hid hS;have c1:=hS.cell HA.out.head;have c2:=hS.cell HA.out.cell;by_cases hql:q<n
      ·obtain⟨b,rfl,hb⟩:=HA.out.row q hql
       have c3:wr.cell? ⟨b,q,none⟩=some (.string ⟨#[111,118,101,114]⟩):=by
        have:=hS.cell (hb 0 (by decide))
        rw[show q*rU 9+0=q from by show q*1+0=q;omega]at this;exact this
       have hi2:(q:Int)<(n:Int):=(by omega);clear hS hb;go_wp2_with fail
       go_roundw
       case rel=>exact ⟨q+1,by omega,by go_num,HS.out⟩
       case measure=>simp [intOf];omega
      ·obtain rfl:q=n:=by omega
       have hnn:¬(q:Int)<(q:Int):=(by omega);clear hS;go_wp2_with fail
       go_roundw
       case rel=>exact ⟨k+1,by omega,by go_num,HS.out⟩
       case measure=>simp [intOf];omega
    ·obtain rfl:k=n9:=by omega
     have hnn:¬(k:Int)<(k:Int):=(by omega);have c1:=hS.cell E9.out;clear hS;go_wp2_with fail
     go_ret
     exact⟨rfl,HS.out⟩
def dS (f:Nat→Bool)(v:Nat→Int):Nat→List Int
 |0=>[]
 |p+1=>dS f v p++((if f p then[20,(cK f p:Int)]else[])++[v p])
theorem gW (f:Nat→Bool)(v:Nat→Int):∀p,(dS f v p).length=fG f p
 |0=>rfl
 |p+1=>by
  unfold dS;rw[List.length_append,List.length_append,gW f v p,kO]
  cases h:f p
  ·rw[zR h];simp
  ·rw[nZ h];simp
theorem B9 (c:Nat→Int)(N:Nat):∀p,bL c N p=dS (aT c N) (tr c N) p
 |0=>rfl
 |p+1=>by unfold bL dS;rw[B9 c N p]
theorem pP {f:Nat→Bool}{v u:Nat→Int}:∀{L:Nat},(∀p,p<L→v p=u p)→dS f v L=dS f u L
 |0,_=>rfl
 |L+1,h=>by unfold dS;rw[pP (fun p hp=>h p (by omega)),h L (by omega)]
def uV (v:Nat→Int)(p:Nat)(x:Int)(j:Nat):Int:=if j=p then x else v j
theorem tJ (f:Nat→Bool)(v:Nat→Int)(x:Int)(p:Nat):∀L,p<L→(dS f v L).set (rV f p) x=dS f (uV v p x) L
 |0,h=>by omega
 |L+1,h=>by
  unfold dS;by_cases e:p=L
  ·subst e;have hg:dS f (uV v p x) p=dS f v p:=pP fun j hj=>by unfold uV;rw[if_neg (by omega)]
   have hx:uV v p x p=x:=by unfold uV;rw[if_pos rfl]
   rw[hg,hx,List.set_append_right _ _ (by rw[gW];exact uU f p),gW]
   cases hf:f p
   ·rw[zR hf,Nat.sub_self];rfl
   ·rw[nZ hf,Nat.add_sub_cancel_left];rfl
  ·have hlt:rV f p<fG f L:=by
    have h1:=kO f p;have h2:=zT (f:=f) (p:=p+1) (r:=L) (by omega);omega
   have hx:uV v p x L=v L:=by unfold uV;rw[if_neg (by omega)]
   rw[List.set_append_left _ _ (by rw[gW];exact hlt),tJ f v x p L (by omega),hx]
def vm (c:Nat→Int)(N m p:Nat):Int:=if(List.range m).any (fun t=>aW (c (pos c t))&&pos c t+1==p)then c p+2*cK (aT c N) (c p).toNat else c p
theorem Iw (c:Nat→Int)(N:Nat):vm c N 0=c:=by funext p;unfold vm;simp
theorem Li {c:Nat→Int}{N m:Nat}(h:aW (c (pos c m))=false):vm c N (m+1)=vm c N m:=by
 funext p
 unfold vm;rw[List.range_succ,List.any_append];simp[h]
theorem Kk {c:Nat→Int}{N m:Nat}(h:aW (c (pos c m))=true):vm c N (m+1)=uV (vm c N m) (pos c m+1) (c (pos c m+1)+2*cK (aT c N) (c (pos c m+1)).toNat):=by
 funext p
 unfold uV;by_cases e:p=pos c m+1
 ·rw[if_pos e];unfold vm;rw[List.range_succ,List.any_append];subst e;simp[h]
 ·rw[if_neg e];unfold vm;rw[List.range_succ,List.any_append];have hb:(pos c m+1==p)=false:=by rw[beq_eq_false_iff_ne];omega
  simp[h,hb]
theorem rJ (c:Nat→Int)(N p:Nat):∀L i,(bf c N L)[i]?=some (p:Int)→i=rV (aT c N) p
 |0,i,h=>by simp[bf]at h
 |L+1,i,h=>by
  unfold bf at h;by_cases hi:i<fG (aT c N) L
  ·rw[List.getElem?_append_left (by rw[cr];exact hi)]at h;exact rJ c N p L i h
  ·rw[List.getElem?_append_right (by rw[cr];omega),cr]at h
   cases hb:aT c N L with
   |false=>
    rw[hb]at h
    obtain⟨j,hj⟩:∃j,i-fG (aT c N) L=j:=⟨_,rfl⟩
    rw[hj]at h;match j,h with
    |0,h=>
     have e:L=p:=by have:(L:Int)=(p:Int):=by simpa using h
                    omega
     subst e;rw[zR hb];omega
    |j+1,h=>simp at h
   |true=>
    rw[hb]at h
    obtain⟨j,hj⟩:∃j,i-fG (aT c N) L=j:=⟨_,rfl⟩
    rw[hj]at h;match j,h with
    |0,h=>simp at h
    |1,h=>simp at h
    |2,h=>
     have e:L=p:=by have:(L:Int)=(p:Int):=by simpa using h
                    omega
     subst e;rw[nZ hb];omega
    |j+3,h=>simp at h
theorem rK {c:Nat→Int}{N L p:Nat}{r:Int}(hp:p<L)(h:mh (pf c N L) (fG (aT c N) L) (p:Int) r):r=(rV (aT c N) p:Int):=by
 have hget:∀i,i<fG (aT c N) L→(bf c N L)[i]?=some (pf c N L i):=fun i hi=>by
  rw[←cr c N L]at hi;rw[List.getElem?_eq_getElem hi];unfold pf;rw[List.getD_eq_getElem?_getD,List.getElem?_eq_getElem hi];rfl
 rcases h with⟨i,h1,h2,_,rfl⟩|⟨h1,_⟩
 ·have:=rJ c N p L i (by rw[hget i h1,h2])
  rw[this]
 ·have hr:rV (aT c N) p<fG (aT c N) L:=by
   have h1:=kO (aT c N) p;have h2:=zT (f:=aT c N) (p:=p+1) (r:=L) (by omega);omega
  have h3:=hget _ hr;rw[Iu c N hp]at h3;exact absurd (Option.some.inj h3).symm (h1 _ hr)
def Kt (c:Nat→Int)(N k:Nat):Int:=match(kV c N N)[k]? with
 |some (.int .i64 x)=>x
 |_=>0
theorem zV {c:Nat→Int}{N k:Nat}(h:k<bq c N N):∃t,t<N∧Kt c N k=(pos c t:Int)∧(kV c N N)[k]?=some (.int .i64 (Kt c N k))∧aM c t N=true∧bq c N t=k:=by
 obtain⟨t,h1,h2,h3,h4⟩:=yE (c:=c) (N:=N) N k h
 have e:Kt c N k=(pos c t:Int):=by unfold Kt;rw[h2]
 exact⟨t,h1,e,by rw[e];exact h2,h3,h4⟩
theorem xN {c:Nat→Int}{L N p:Nat}{r:Int}(F:gq c L N 19)(hL:L≤80)(h:mh (Kt c N) (bq c N N) (p:Int) r):r=if aT c N p then(cK (aT c N) p:Int)else -1:=by
 rcases h with⟨k,h1,h2,_,rfl⟩|⟨h1,rfl⟩
 ·obtain⟨t,a,b,_,d,e⟩:=zV h1
  have hp:pos c t=p:=by rw[b]at h2;omega
  subst hp;rw[qg F.sp a,d,if_pos rfl,yq F t (by omega),e]
 ·cases hb:aT c N p with
  |false=>rfl
  |true=>
   exfalso
   obtain⟨t,ht,rfl⟩:=(F.vp hL).FH hb
   have hr:aM c t N=true:=by rw[←qg F.sp ht];exact hb
   have hlt:=ko (N:=N) hr ht
   obtain⟨t',a,b,_,d,e⟩:=zV hlt
   have ht':t'=t:=by
    rcases Nat.lt_trichotomy t' t with x|x|x
    ·have:=ko (N:=N) d x;omega
    ·exact x
    ·have:=ko (N:=N) hr x;omega
   subst ht';exact h1 _ hlt b
theorem pJ {w:World}{e:TypeId}{s g n cap:Nat}{f:Nat→Value}{xs:List Value}{j:Nat}(h:w.ownsRow 0 e s (.slice (some ⟨g,0,none⟩) n cap) n (gu f j++xs.drop j))(hj:j<xs.length):
  (w.setCell ⟨g,j,none⟩ (f j)).ownsRow 0 e s (.slice (some ⟨g,0,none⟩) n cap) n (gu f (j+1)++xs.drop (j+1))∧w.grownBy (w.setCell ⟨g,j,none⟩ (f j)) (some g)∧w.frozen? ⟨g,j,none⟩=false∧∃x,w.cell? ⟨g,j,none⟩=some x:=by
 obtain⟨h1,h2⟩:=h.stored j (f j)
 have e:(gu f j++xs.drop j).set j (f j)=gu f (j+1)++xs.drop (j+1):=by
  have hl:=ia f j;rw[List.set_append_right _ _ (by omega),hl,Nat.sub_self,List.drop_eq_getElem_cons hj,List.set_cons_zero,←uv f j 1,List.append_assoc];rfl
 rw[e]at h1
 refine⟨h1,h2,h.frozenAt j,?_⟩
 have hlen:=h.1
 obtain⟨x,hx⟩:∃x,(gu f j++xs.drop j)[j]?=some x:=⟨_,List.getElem?_eq_getElem (by rw[List.length_append,ia,List.length_drop];omega)⟩
 refine⟨x,?_⟩
 have:=h.cells (g:=g) rfl j x hx
 rw[Addr.add_lit]at this;simpa using this
theorem AP.start {w w0:World}{e:TypeId}{s n:Nat}{f:Nat→Value}{v:Value}{xs:List Value}(h:w.ownsRow 0 e s v n (gu f (n*s)++xs.drop (n*s)))(hx:xs.length=n*s)(hg:w0.grownBy w v.ownBlock):AP w0 w e s f v n [v]:=by
 rw[List.drop_eq_nil_of_le (by omega),List.append_nil]at h
 exact⟨h,hg,fun u hu=>by obtain rfl:=List.mem_singleton.1 hu;exact⟨⟨n,h⟩,fun g hg=>Or.inl hg⟩⟩
theorem fS {w:World}{f:Nat→Value}{k:Nat}{t:TypeId}{cs:List Value}(h:gu f k=cs):∀(j:Nat) (u:Value),(gu f k)[j]?=some u→(w.alloc (.cells cs.toArray t)).cell? ((⟨w.heap.size,0,none⟩:Addr).add j)=some u:=by
 rw[h];exact cG w cs t
theorem BB.mid {w w3 W3:World}{B:Nat→Prop}{M:Nat}{F:Nat→Value}{X:Nat→List Value}(h:BB w B M F X){v:Value}(hg:w.grownBy w3 v.ownBlock)(hv:∀g,v.ownBlock=some g→¬B g)(S:Sm w3 W3):OB tq M W3 F X (fun r=>(X r).length):=
 (h.ob.keep hg.size (fun k hk=>hg.block k (h.ob.in hk) (fun c=>hv k c.symm (h.ze k hk)))).sm S
theorem cT {w:World}{b:Nat}{e:TypeId}{s n:Nat}{v:Value}{xs:List Value}(h:w.ownsRow b e s v n xs):∃p cap,v=.slice p n cap:=by
 rcases aO h with⟨e,rfl⟩|⟨b,cap,e,_⟩
 ·exact⟨none,0,e⟩
 ·exact⟨_,cap,e⟩
def jh (q:Nat)(B:Nat→Prop)(M:Nat)(L:Nat→Nat)(v:Value)(w:World)(e:Ending)(w':World):Prop:=
 e=.returned (.tuple #[])∧Fr (fun k=>B k∨v.ownBlock=some k) w w'∧Bk w' (Gr (fun k=>B k∨v.ownBlock=some k) w w') M (bump L q)
theorem jh.lift {q:Nat}{B:Nat→Prop}{M:Nat}{L:Nat→Nat}{v:Value}{w wx w':World}{e:Ending}(h:jh q B M L v wx e w')(b:Below w.heap.size w wx)(hB:∀k,B k∨v.ownBlock=some k→k<w.heap.size∧3≤k)(h3:3≤w.heap.size):jh q B M L v w e w':=by
 obtain⟨h1,h2,h4⟩:=h
 have s:=b.size;have s2:=h2.size
 exact⟨h1,(Fr.below b).trans (h2.wide (fun _ c=>Or.inl c)),h4.keep (Nat.le_refl _) (fun _ _=>rfl) (fun k hk=>hk.imp id (fun c=>⟨by omega,c.2⟩)) (fun k hk=>hk.elim (fun c=>by have:=(hB k c).1;omega) (fun c=>c.2)) (fun k hk=>hk.elim (fun c=>(hB k c).2) (fun c=>by omega))⟩
section
variable {w w1 w2:World} {B C:Nat→Prop} {M:Nat} {L:Nat→Nat}
theorem Bk.lt (h:Bk w B M L):(∀k,B k→k<w.heap.size∧3≤k)∧3≤w.heap.size:=by
 obtain⟨F,X,b,_⟩:=h
 exact⟨fun k hk=>⟨b.lt k hk,b.low k hk⟩,b.three⟩
theorem Bk.below (h:Bk w B M L)(b:Below w.heap.size w w1):Bk w1 B M L:=h.keep b.size (fun k hk=>b.block k (h.lt.1 k hk).1) (fun _ c=>c) (fun k hk=>Nat.lt_of_lt_of_le (h.lt.1 k hk).1 b.size) (fun k hk=>(h.lt.1 k hk).2)
theorem Bk.more (h:Bk w B M L){L':Nat→Nat}(hl:∀r,L r≤L' r):Bk w B M L':=by
 obtain⟨F,X,b,c⟩:=h
 exact⟨F,X,b,fun r=>Nat.le_trans (c r) (hl r)⟩
def jJ (B:Nat→Prop)(M:Nat)(L:Nat→Nat)(w:World)(e:Ending)(w':World):Prop:=
 e=.returned (.bool true)∧Fr B w w'∧Bk w' (Gr B w w') M (fun r=>L r+4)
structure Sq (B:Nat→Prop) (M:Nat) (L:Nat→Nat) (w w1:World) (C:Nat→Prop):Prop where
 fr:Fr B w w1
 bk:Bk w1 C M L
 sub:∀k,C k→Gr B w w1 k
 three:3≤w.heap.size
 low:∀k,B k→k<w.heap.size∧3≤k
theorem Sq.of (h:Bk w B M L)(b:Below w.heap.size w w1):Sq B M L w w1 B:=⟨Fr.below b,h.below b,fun _ c=>Or.inl c,h.lt.2,h.lt.1⟩
theorem AF {k:Nat}(h:Gr B w w1 k)(hs:w1.heap.size≤w2.heap.size):Gr B w w2 k:=h.imp id (fun c=>⟨c.1,Nat.lt_of_lt_of_le c.2 hs⟩)
theorem Sq.below (h:Sq B M L w w1 C)(b:Below w1.heap.size w1 w2):Sq B M L w w2 C:=⟨h.fr.trans (Fr.below b),h.bk.below b,fun k hk=>AF (h.sub k hk) b.size,h.three,h.low⟩
theorem Sq.own {v:Value}{L':Nat→Nat}(h:Sq B M L w w1 C)(f:Fr (fun k=>C k∨v.ownBlock=some k) w1 w2)(b:Bk w2 (Gr (fun k=>C k∨v.ownBlock=some k) w1 w2) M L')(hv:∀g,v.ownBlock=some g→w.heap.size≤g∧g<w1.heap.size):Sq B M L' w w2 (Gr (fun k=>C k∨v.ownBlock=some k) w1 w2):=
 ⟨h.fr.trans (f.wide (fun k hk=>hk.elim (h.sub k) (fun c=>Or.inr (hv k c)))),b,fun k hk=>hk.elim (fun c=>AF (c.elim (h.sub k) (fun d=>Or.inr (hv k d))) f.size) (fun c=>Or.inr ⟨Nat.le_trans h.fr.size c.1,c.2⟩),h.three,h.low⟩
theorem Sq.fin (h:Sq B M L w w1 C){L0:Nat→Nat}(hL:∀r,L r≤L0 r+4):jJ B M L0 w (.returned (.bool true)) w1:=
 ⟨rfl,h.fr,(h.bk.keep (Nat.le_refl _) (fun _ _=>rfl) h.sub (fun k hk=>hk.elim (fun c=>Nat.lt_of_lt_of_le (h.low k c).1 h.fr.size) (fun c=>c.2)) (fun k hk=>hk.elim (fun c=>(h.low k c).2) (fun c=>by have:=h.three;omega))).more hL⟩
theorem Fr.stay {v:Value}{k:Nat}(f:Fr (fun k=>C k∨v.ownBlock=some k) w1 w2)(hk:k<w1.heap.size)(hC:¬C k)(hv:v.ownBlock≠some k):w2.heap[k]?=w1.heap[k]?∧¬Gr (fun k=>C k∨v.ownBlock=some k) w1 w2 k:=
 ⟨f.block k hk (fun c=>c.elim hC hv),fun c=>c.elim (fun d=>d.elim hC hv) (fun d=>by omega)⟩
end
def Ea:Array Value:=#[.int .u8 2,.int .u8 1,.int .u8 97,.int .u8 12,.int .u8 15,.int .u8 9,.int .u8 19,.int .u8 7,.int .u8 0,.int .u8 0]
theorem iH (w:World):Calls Tryz.prog 8 #[] w fun e w'=>e=.returned (.slice (some ⟨w.heap.size,0,none⟩) 10 10)∧w'=w.alloc (.cells Ea 5):=by
 go_in;go_wp2_with fail
 all_goals(first|done|(go_ret;exact⟨rfl,rfl⟩)|skip)
def mV (h:Nat):Array Value:=#[.int .i64 1,.int .i64 0,.int .i64 0,.int .i64 0,.slice (some ⟨h,0,none⟩) 10 10,.string ⟨#[]⟩,.string ⟨#[]⟩,.int .u64 0,.slice none 0 0,.int .i64 2,.int .i64 0,.int .i64 0,.int .i64 100,.slice (some ⟨h+1,0,none⟩) 10 10,.string ⟨#[98]⟩,.string ⟨#[]⟩,.int .u64 0,.slice none 0 0,.int .i64 3,.int .i64 0,.int .i64 0,.int .i64 0,.slice (some ⟨h+1+1,0,none⟩) 10 10,.string ⟨#[]⟩,.string ⟨#[]⟩,.int .u64 0,.slice none 0 0,.int .i64 5,.int .i64 0,.int .i64 30,.int .i64 0,.slice none 0 0,.string ⟨#[97]⟩,.string ⟨#[]⟩,.int .u64 0,.slice none 0 0,.int .i64 6,.int .i64 0,.int .i64 0,.int .i64 0,.slice none 0 0,.string ⟨#[97,98,99]⟩,.string ⟨#[120,121,122]⟩,.int .u64 1,.slice none 0 0,.int .i64 7,.int .i64 0,.int .i64 0,.int .i64 100,.slice (some ⟨h+1+1+1,0,none⟩) 10 10,.string ⟨#[]⟩,.string ⟨#[]⟩,.int .u64 1,.slice (some ⟨h+1+1+1+1,0,none⟩) 1 1,.int .i64 8,.int .i64 0,.int .i64 40,.int .i64 0,.slice none 0 0,.string ⟨#[]⟩,.string ⟨#[]⟩,.int .u64 0,.slice none 0 0,.int .i64 11,.int .i64 0,.int .i64 0,.int .i64 0,.slice none 0 0,.string ⟨#[]⟩,.string ⟨#[]⟩,.int .u64 0,.slice none 0 0,.int .i64 14,.int .i64 0,.int .i64 0,.int .i64 0,.slice none 0 0,.string ⟨#[]⟩,.string ⟨#[]⟩,.int .u64 0,.slice none 0 0]
def uf (w:World):World:=(((((w.alloc (.cells Ea 5)).alloc (.cells Ea 5)).alloc (.cells Ea 5)).alloc (.cells Ea 5)).alloc (.cells #[.string ⟨#[98]⟩] 9)).alloc (.cells (mV w.heap.size) 43)
theorem BQ (w:World):Calls Tryz.prog 5 #[] w fun e w'=>e=.returned (.slice (some ⟨w.heap.size+5,0,none⟩) 9 9)∧w'=uf w:=by
 go_in;go_wp2_with fail
 refine(iH _).mono ?_
 rintro _ _ ⟨rfl,rfl⟩;go_wp2_with fail
 refine(iH _).mono ?_
 rintro _ _ ⟨rfl,rfl⟩;go_wp2_with fail
 refine(iH _).mono ?_
 rintro _ _ ⟨rfl,rfl⟩;go_wp2_with fail
 refine(iH _).mono ?_
 rintro _ _ ⟨rfl,rfl⟩;go_wp2_with fail
 go_ret
 exact⟨rfl,rfl⟩
end Go.Proofs.YtmpgjkhchfcjlaaGreatDoor
