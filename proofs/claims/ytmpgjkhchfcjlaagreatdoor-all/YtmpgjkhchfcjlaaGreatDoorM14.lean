import Derived.Test.YtmpgjkhchfcjlaaGreatDoorM07
namespace Go.Proofs.YtmpgjkhchfcjlaaGreatDoor
open Go.RowKit
set_option maxHeartbeats 1000000
structure WR (base W:Nat) (w:World) (vc vf:Value) (cs fs:List Int):Prop where
 c0:w.cell? ⟨W,0,none⟩=some vc
 c1:w.cell? ⟨W,1,none⟩=some vf
 thaw:∀j,w.frozen? ⟨W,j,none⟩=false
 bI:w.ownsRow base 5 1 vc cs.length (cs.map (Value.int .u8))
 bR:w.ownsRow base 3 1 vf fs.length (fs.map (Value.int .i64))
 apart:vc.ownBlock=none∨vc.ownBlock≠vf.ownBlock
 lt:W<base
 le:base≤w.heap.size
theorem WR.alloc {base W:Nat}{w:World}{vc vf:Value}{cs fs:List Int}(h:WR base W w vc vf cs fs)(o:Obj):WR base W (w.alloc o) vc vf cs fs where
 c0:=(World.cell?_alloc_past _ _ _ (Nat.lt_of_lt_of_le h.lt h.le)).trans h.c0
 c1:=(World.cell?_alloc_past _ _ _ (Nat.lt_of_lt_of_le h.lt h.le)).trans h.c1
 thaw:=fun j=>by rw[World.frozen?_of_block (w:=w) (a:=⟨W,j,none⟩) (Below.heap_alloc w o W (Nat.lt_of_lt_of_le h.lt h.le))];exact h.thaw j
 bI:=h.bI.alloc o
 bR:=h.bR.alloc o
 apart:=h.apart
 lt:=h.lt
 le:=by have:=h.le;simp;omega
theorem WR.o5 {base W:Nat}{w w1:World}{vc vf v':Value}{cs fs:List Int}(h:WR base W w vc vf cs fs)(ns:List Int)(hg:w.grownBy w1 vc.ownBlock)
  (ho:w1.ownsRow base 5 1 v' (cs.length+ns.length) (cs.map (Value.int .u8)++ns.map (Value.int .u8)))(hat:v'.ownBlock=vc.ownBlock∨v'.ownBlock=some w.heap.size):
  WR base W (w1.setCell ⟨W,0,none⟩ v') v' vf (cs++ns) fs where
 c0:=World.cell?_setCell_same _ _ _ (hg.cell (a:=⟨W,0,none⟩) h.c0 (dA h.bI h.lt))
 c1:=by
  rw[World.cell?_setCell_other _ _ _ _ (fun c=>by injection c with _ c2 _;omega)];exact hg.cell (a:=⟨W,1,none⟩) h.c1 (dA h.bI h.lt)
 thaw:=fun j=>by rw[World.frozen?_setCell,World.frozen?_of_block (w:=w) (a:=⟨W,j,none⟩) (hg.block W (Nat.lt_of_lt_of_le h.lt h.le) (dA h.bI h.lt))];exact h.thaw j
 bI:=by
  have:=bn ho W 0 h.lt v'
  simpa using this
 bR:=bn (nv h.bR hg h.apart) W 0 h.lt v'
 apart:=by
  rcases hat with e|e
  ·rw[e];exact h.apart
  ·right;rw[e];intro c;have:=(h.bR.lt _ c.symm).2;omega
 lt:=h.lt
 le:=by have:=hg.size;have:=h.le;simp;omega
theorem WR.o8 {base W:Nat}{w w1:World}{vc vf v':Value}{cs fs:List Int}(h:WR base W w vc vf cs fs)(ns:List Int)(hg:w.grownBy w1 vf.ownBlock)
  (ho:w1.ownsRow base 3 1 v' (fs.length+ns.length) (fs.map (Value.int .i64)++ns.map (Value.int .i64)))(hat:v'.ownBlock=vf.ownBlock∨v'.ownBlock=some w.heap.size):
  WR base W (w1.setCell ⟨W,1,none⟩ v') vc v' cs (fs++ns) where
 c0:=by
  rw[World.cell?_setCell_other _ _ _ _ (fun c=>by injection c with _ c2 _;omega)];exact hg.cell (a:=⟨W,0,none⟩) h.c0 (dA h.bR h.lt)
 c1:=World.cell?_setCell_same _ _ _ (hg.cell (a:=⟨W,1,none⟩) h.c1 (dA h.bR h.lt))
 thaw:=fun j=>by rw[World.frozen?_setCell,World.frozen?_of_block (w:=w) (a:=⟨W,j,none⟩) (hg.block W (Nat.lt_of_lt_of_le h.lt h.le) (dA h.bR h.lt))];exact h.thaw j
 bI:=by
  refine bn (h.bI.kept hg ?_) W 1 h.lt v';rcases h.apart with ha|ha
  ·exact .inl ha
  ·exact .inr ha
 bR:=by
  have:=bn ho W 1 h.lt v'
  simpa using this
 apart:=by
  rcases hat with e|e
  ·rw[e];exact h.apart
  ·cases hv:vc.ownBlock with
   |none=>exact .inl rfl
   |some k=>right;rw[e];intro c;have:=(h.bI.lt k hv).2;injection c with c;omega
 lt:=h.lt
 le:=by have:=hg.size;have:=h.le;simp;omega
structure Given (w:World) (W:Nat) (vc vf:Value) (ab ao:Nat) (xs:List Int):Prop where
 cell:∀(j:Nat) (x:Int),xs[j]?=some x→w.cell? ⟨ab,ao+j,none⟩=some (.int .u8 x)
 lt:ab<w.heap.size
 n1:some ab≠vc.ownBlock
 n2:some ab≠vf.ownBlock
 n3:ab≠W
theorem jD {w:World}{base:Nat}{e:TypeId}{size:Nat}{v:Value}{n:Nat}{xs:List Value}(h:w.ownsRow base e size v n xs):∃ao cap,v=.slice ao n cap:=by
 rcases h.2 with⟨e,h0⟩|⟨g,cap,cur,hv,_⟩
 ·exact⟨none,0,by rw[h0];exact e⟩
 ·exact⟨_,_,hv⟩
theorem Given.alloc {w:World}{W:Nat}{vc vf:Value}{ab ao:Nat}{xs:List Int}(h:Given w W vc vf ab ao xs)(o:Obj):Given (w.alloc o) W vc vf ab ao xs:=
 ⟨fun j x hx=>(World.cell?_alloc_past _ _ _ h.lt).trans (h.cell j x hx),by have:=h.lt;simp;omega,h.n1,h.n2,h.n3⟩
theorem Given.o5 {w w1:World}{W:Nat}{vc vf v':Value}{ab ao:Nat}{xs:List Int}(h:Given w W vc vf ab ao xs)(hg:w.grownBy w1 vc.ownBlock)(hat:v'.ownBlock=vc.ownBlock∨v'.ownBlock=some w.heap.size)(i:Nat)(u:Value):Given (w1.setCell ⟨W,i,none⟩ u) W v' vf ab ao xs where
 cell:=fun j x hx=>by
  rw[World.cell?_setCell_other _ _ _ _ (fun c=>h.n3 (by injection c with c1 _ _;exact c1.symm))];exact hg.cell (a:=⟨ab,ao+j,none⟩) (h.cell j x hx) (by exact h.n1)
 lt:=by have:=h.lt;have:=hg.size;simp;omega
 n1:=by
  rcases hat with e|e
  ·rw[e];exact h.n1
  ·rw[e];intro c;injection c with c;have:=h.lt;omega
 n2:=h.n2
 n3:=h.n3
theorem Given.o8 {w w1:World}{W:Nat}{vc vf v':Value}{ab ao:Nat}{xs:List Int}(h:Given w W vc vf ab ao xs)(hg:w.grownBy w1 vf.ownBlock)(hat:v'.ownBlock=vf.ownBlock∨v'.ownBlock=some w.heap.size)(i:Nat)(u:Value):Given (w1.setCell ⟨W,i,none⟩ u) W vc v' ab ao xs where
 cell:=fun j x hx=>by
  rw[World.cell?_setCell_other _ _ _ _ (fun c=>h.n3 (by injection c with c1 _ _;exact c1.symm))];exact hg.cell (a:=⟨ab,ao+j,none⟩) (h.cell j x hx) (by exact h.n2)
 lt:=by have:=h.lt;have:=hg.size;simp;omega
 n1:=h.n1
 n2:=by
  rcases hat with e|e
  ·rw[e];exact h.n2
  ·rw[e];intro c;injection c with c;have:=h.lt;omega
 n3:=h.n3
theorem oa (w:World)(p:Addr)(u x:Value)(t:TypeId):∀(j:Nat) (v:Value),[x][j]?=some v→((w.setCell p u).alloc (.cells #[x] t)).cell? (Addr.add ⟨w.heap.size,0,none⟩ j)=some v:=by
 intro j v h;have h2:=cell_one_new (w.setCell p u) x t j v h;have e:(w.setCell p u).heap.size=w.heap.size:=by simp
 rw[e]at h2;exact h2
theorem take_succ {xs:List Int}{k:Nat}(h:k<xs.length):xs.take (k+1)=xs.take k++[xs[k]]:=by rw[List.take_add_one,List.getElem?_eq_getElem h];rfl
theorem Ix (base W:Nat)(w:World)(vc vf:Value)(cs fs:List Int)(ab ao n cap:Nat)(xs:List Int)(h:WR base W w vc vf cs fs)(hn:xs.length=n)(G:Given w W vc vf ab ao xs)(hb:cs.length+n≤1000)(hb2:fs.length+n≤1000)(hcap:n≤cap):
  Calls Tryz.prog 111 #[.pointer (some ⟨W,0,none⟩),.slice (some ⟨ab,ao,none⟩) n cap] w fun e w'=>e=.returned (.tuple #[])∧(∃vc' vf',WR base W w' vc' vf' (cs++xs) (fs++List.replicate n (-1:Int)))∧Kept base W w w':=by
 obtain⟨i,hi,hz0,hz1,hz2⟩:=info_parts Tryz.kf
 obtain⟨i',hi',hz0',hz1',hz2'⟩:=info_parts Tryz.gw
 go_in;go_wp2;go_loopw [8] (fun ii wr=>∃k:Nat,k≤n∧ii=.int .i64 k∧Kept base W w wr∧∃vc' vf',WR base W wr vc' vf' (cs++xs.take k) (fs++List.replicate k (-1:Int))∧Given wr W vc' vf' ab ao xs) (fun ii _=>n-(intOf ii).toNat)
 case atStart=>exact ⟨0,by omega,rfl,Kept.refl _ _ _,vc,vf,by rw[List.take_zero,List.append_nil,show List.replicate 0 (-1:Int)=[]from rfl,List.append_nil];exact h,G⟩
 case round=>
  obtain⟨k,hk,rfl,hK,vc',vf',hR,hG⟩:=hrel
  by_cases hlt:k<n
  ·have hkl:k<xs.length:=by omega
   obtain⟨x,hx⟩:∃x,xs[k]=x:=⟨_,rfl⟩
   have hck:=hG.cell k x (by rw[List.getElem?_eq_getElem hkl,hx]);have hi1:(k:Int)<(n:Int):=(by omega);have hlc:(cs++xs.take k).length=cs.length+k:=by simp;omega
   have hlf:(fs++List.replicate k (-1:Int)).length=fs.length+k:=(by simp);have HTK:Hid (cs++xs.take (k+1)=(cs++xs.take k)++[x]):=by show cs++xs.take (k+1)=_;rw[take_succ hkl,hx,List.append_assoc]
   have HFK:Hid (fs++List.replicate (k+1) (-1:Int)=(fs++List.replicate k (-1:Int))++[(-1)]):=by show fs++_=_;rw[List.replicate_succ',List.append_assoc]
   obtain⟨ck,hck0⟩:∃l,cs++xs.take k=l:=⟨_,rfl⟩
   obtain⟨fk,hfk0⟩:∃l,fs++List.replicate k (-1:Int)=l:=⟨_,rfl⟩
   rw[hck0]at hlc HTK hR;rw[hfk0]at hlf HFK hR;clear hck0 hfk0;have hlc2:ck.length+1≤1000:=(by omega);have hlf2:fk.length+1≤1000:=(by omega);clear hlc hlf;have HK:=hid hK;have HR:=hid hR;have HG:=hid hG;have c0:=hR.c0;have f0:=hR.thaw 0;clear hK hR hG hx;go_wp2_with(at_builtin;refine wpList_append_own_at _ rfl (.tmp 16) (.tmp 18) 39 rfl base 5 i (.int .u8 0) 1 1 Tryz.underlying39 hi hz0 hz1 hz2 rfl (by decide) _ _ _ rfl (HR.out.bI.alloc _) ⟨_,0,none⟩ 1 1 [.int .u8 x] rfl rfl (cell_one_new _ _ _) ?c2 (by unfold maxLen;omega) (by omega) (by have:=HR.out.le;simp;omega) ?_)
   case c2=>intro u hu;simp at hu;subst hu;rfl
   intro v1 w1 hown1 hgrow1 _ hat1;have R0:=HR.out.alloc (.cells #[.int .u8 x] 5);have R1:=R0.o5 [x] hgrow1 hown1 (by simpa using hat1);have G1:=(HG.out.alloc (.cells #[.int .u8 x] 5)).o5 hgrow1 (by simpa using hat1) 0 v1;have K1:=(HK.out.trans (Kept.alloc (M:=W) wr HR.out.le (.cells #[.int .u8 x] 5))).trans ((gM (M:=W) R0.bI R0.le hgrow1).trans (Kept.set base W w1 0 v1));have hne1:=dA R0.bI R0.lt;have hv1:=hgrow1.cell (a:=⟨W,0,none⟩) R0.c0 hne1;have hf1:w1.frozen? ⟨W,0,none⟩=false:=by
    rw[World.frozen?_of_block (w:=wr.alloc (.cells #[.int .u8 x] 5)) (a:=⟨W,0,none⟩) (hgrow1.block W (Nat.lt_of_lt_of_le R0.lt R0.le) hne1)];exact R0.thaw 0
   obtain⟨g',cap',hv'⟩:=aB hown1 (by omega)
   rw[hv']at R1 K1 G1⊢;have HR1:Hid _:=R1;have HG1:Hid _:=G1;have HK1:Hid _:=K1;have c1:=R1.c1;have f1:=R1.thaw 1;clear hown1 hgrow1 hat1 R1 G1 K1 HR HG HK R0;go_wp2_with(at_builtin;refine wpList_append_own_at _ rfl (.tmp 26) (.tmp 27) 32 rfl base 3 i' (.int .i64 0) 1 8 Tryz.underlying32 hi' hz0' hz1' hz2' rfl (by decide) _ _ _ rfl (HR1.out.bR.alloc _) ⟨_,0,none⟩ 1 1 [.int .i64 (-1)] rfl rfl (oa _ _ _ _ _) ?c2 (by unfold maxLen;omega) (by omega) (by have:=HR1.out.le;simp at this⊢;omega) ?_)
   case c2=>intro u hu;simp at hu;subst hu;rfl
   intro v2 w2 hown2 hgrow2 _ hat2;have R0:=HR1.out.alloc (.cells #[.int .i64 (-1)] 3);have R2:=R0.o8 [(-1)] hgrow2 hown2 (by simpa using hat2);have G2:=(HG1.out.alloc (.cells #[.int .i64 (-1)] 3)).o8 hgrow2 (by simpa using hat2) 1 v2;have K2:=(HK1.out.trans (Kept.alloc (M:=W) _ HR1.out.le (.cells #[.int .i64 (-1)] 3))).trans ((gM (M:=W) R0.bR R0.le hgrow2).trans (Kept.set base W w2 1 v2));have hne2:=dA R0.bR R0.lt;have hv2:=hgrow2.cell (a:=⟨W,1,none⟩) R0.c1 hne2;have hf2:w2.frozen? ⟨W,1,none⟩=false:=by
    rw[World.frozen?_of_block (w:=World.alloc _ (.cells #[.int .i64 (-1)] 3)) (a:=⟨W,1,none⟩) (hgrow2.block W (Nat.lt_of_lt_of_le R0.lt R0.le) hne2)];exact R0.thaw 1
   obtain⟨g'',cap'',hv''⟩:=aB hown2 (by omega)
   rw[hv'']at R2 K2 G2⊢;have HR2:Hid _:=R2;have HG2:Hid _:=G2;have HK2:Hid _:=K2;clear hown2 hgrow2 hat2 R2 G2 K2 HR1 HG1 HK1 R0;go_wp2;go_roundw
   case rel=>
    refine⟨k+1,by omega,by go_num,HK2.out,_,_,?_,HG2.out⟩
    rw[HTK.out,HFK.out];exact HR2.out
   case measure=>simp [intOf];omega
  ·have e:k=n:=(by omega);subst e;have HT:Hid (xs.take k=xs):=by show xs.take k=xs;rw[←hn];exact List.take_length
   go_wp2;go_end0
   exact⟨rfl,⟨_,_,by rw[HT.out]at hR;exact hR⟩,hK⟩
def iC (p n:Nat):List Int:=(List.range n).map fun(j:Nat)=>(p:Int)+(j:Int)
theorem zW {p n:Nat}:iC p (n+1)=iC p n++[(p:Int)+(n:Int)]:=by unfold iC;rw[List.range_succ,List.map_append];rfl
theorem D9 (p n:Nat):(iC p n).length=n:=by unfold iC;simp
theorem iR (base W:Nat)(w:World)(vc vf:Value)(cs fs:List Int)(ab ao n cap:Nat)(xs:List Int)(p:Nat)(hp:p≤1000)(h:WR base W w vc vf cs fs)(hn:xs.length=n)(G:Given w W vc vf ab ao xs)(hb:cs.length+n≤1000)(hb2:fs.length+n≤1000)(hcap:n≤cap):
  Calls Tryz.prog 114 #[.pointer (some ⟨W,0,none⟩),.int .i64 (p:Int),.slice (some ⟨ab,ao,none⟩) n cap] w fun e w'=>e=.returned (.tuple #[])∧(∃vc' vf',WR base W w' vc' vf' (cs++xs) (fs++iC p n))∧Kept base W w w':=by
 obtain⟨i,hi,hz0,hz1,hz2⟩:=info_parts Tryz.kf
 obtain⟨i',hi',hz0',hz1',hz2'⟩:=info_parts Tryz.gw
 go_in;go_wp2;go_loopw [10] (fun ii wr=>∃k:Nat,k≤n∧ii=.int .i64 k∧Kept base W w wr∧∃vc' vf',WR base W wr vc' vf' (cs++xs.take k) (fs++iC p k)∧Given wr W vc' vf' ab ao xs) (fun ii _=>n-(intOf ii).toNat)
 case atStart=>exact ⟨0,by omega,rfl,Kept.refl _ _ _,vc,vf,by rw[List.take_zero,List.append_nil,show iC p 0=[]from rfl,List.append_nil];exact h,G⟩
 case round=>
  obtain⟨k,hk,rfl,hK,vc',vf',hR,hG⟩:=hrel
  by_cases hlt:k<n
  ·have hkl:k<xs.length:=by omega
   obtain⟨x,hx⟩:∃x,xs[k]=x:=⟨_,rfl⟩
   have hck:=hG.cell k x (by rw[List.getElem?_eq_getElem hkl,hx]);have hi1:(k:Int)<(n:Int):=(by omega);have hlc:(cs++xs.take k).length=cs.length+k:=by simp;omega
   have hlf:(fs++iC p k).length=fs.length+k:=(by rw[List.length_append,D9]);have HTK:Hid (cs++xs.take (k+1)=(cs++xs.take k)++[x]):=by show cs++xs.take (k+1)=_;rw[take_succ hkl,hx,List.append_assoc]
   have HFK:Hid (fs++iC p (k+1)=(fs++iC p k)++[((p:Int)+(k:Int))]):=by show fs++_=_;rw[zW,List.append_assoc]
   obtain⟨ck,hck0⟩:∃l,cs++xs.take k=l:=⟨_,rfl⟩
   obtain⟨fk,hfk0⟩:∃l,fs++iC p k=l:=⟨_,rfl⟩
   rw[hck0]at hlc HTK hR;rw[hfk0]at hlf HFK hR;clear hck0 hfk0;have hlc2:ck.length+1≤1000:=(by omega);have hlf2:fk.length+1≤1000:=(by omega);clear hlc hlf;have HK:=hid hK;have HR:=hid hR;have HG:=hid hG;have c0:=hR.c0;have f0:=hR.thaw 0;clear hK hR hG hx;go_wp2_with(at_builtin;refine wpList_append_own_at _ rfl (.tmp 19) (.tmp 21) 39 rfl base 5 i (.int .u8 0) 1 1 Tryz.underlying39 hi hz0 hz1 hz2 rfl (by decide) _ _ _ rfl (HR.out.bI.alloc _) ⟨_,0,none⟩ 1 1 [.int .u8 x] rfl rfl (cell_one_new _ _ _) ?c2 (by unfold maxLen;omega) (by omega) (by have:=HR.out.le;simp;omega) ?_)
   case c2=>intro u hu;simp at hu;subst hu;rfl
   intro v1 w1 hown1 hgrow1 _ hat1;have R0:=HR.out.alloc (.cells #[.int .u8 x] 5);have R1:=R0.o5 [x] hgrow1 hown1 (by simpa using hat1);have G1:=(HG.out.alloc (.cells #[.int .u8 x] 5)).o5 hgrow1 (by simpa using hat1) 0 v1;have K1:=(HK.out.trans (Kept.alloc (M:=W) wr HR.out.le (.cells #[.int .u8 x] 5))).trans ((gM (M:=W) R0.bI R0.le hgrow1).trans (Kept.set base W w1 0 v1));have hne1:=dA R0.bI R0.lt;have hv1:=hgrow1.cell (a:=⟨W,0,none⟩) R0.c0 hne1;have hf1:w1.frozen? ⟨W,0,none⟩=false:=by
    rw[World.frozen?_of_block (w:=wr.alloc (.cells #[.int .u8 x] 5)) (a:=⟨W,0,none⟩) (hgrow1.block W (Nat.lt_of_lt_of_le R0.lt R0.le) hne1)];exact R0.thaw 0
   obtain⟨g',cap',hv'⟩:=aB hown1 (by omega)
   rw[hv']at R1 K1 G1⊢;have HR1:Hid _:=R1;have HG1:Hid _:=G1;have HK1:Hid _:=K1;have c1:=R1.c1;have f1:=R1.thaw 1;clear hown1 hgrow1 hat1 R1 G1 K1 HR HG HK R0;go_wp2_with(at_builtin;refine wpList_append_own_at _ rfl (.tmp 29) (.tmp 33) 32 rfl base 3 i' (.int .i64 0) 1 8 Tryz.underlying32 hi' hz0' hz1' hz2' rfl (by decide) _ _ _ rfl (HR1.out.bR.alloc _) ⟨_,0,none⟩ 1 1 [.int .i64 ((p:Int)+(k:Int))] rfl rfl (oa _ _ _ _ _) ?c2 (by unfold maxLen;omega) (by omega) (by have:=HR1.out.le;simp at this⊢;omega) ?_)
   case c2=>intro u hu;simp at hu;subst hu;rfl
   intro v2 w2 hown2 hgrow2 _ hat2;have R0:=HR1.out.alloc (.cells #[.int .i64 ((p:Int)+(k:Int))] 3);have R2:=R0.o8 [((p:Int)+(k:Int))] hgrow2 hown2 (by simpa using hat2);have G2:=(HG1.out.alloc (.cells #[.int .i64 ((p:Int)+(k:Int))] 3)).o8 hgrow2 (by simpa using hat2) 1 v2;have K2:=(HK1.out.trans (Kept.alloc (M:=W) _ HR1.out.le (.cells #[.int .i64 ((p:Int)+(k:Int))] 3))).trans ((gM (M:=W) R0.bR R0.le hgrow2).trans (Kept.set base W w2 1 v2));have hne2:=dA R0.bR R0.lt;have hv2:=hgrow2.cell (a:=⟨W,1,none⟩) R0.c1 hne2;have hf2:w2.frozen? ⟨W,1,none⟩=false:=by
    rw[World.frozen?_of_block (w:=World.alloc _ (.cells #[.int .i64 ((p:Int)+(k:Int))] 3)) (a:=⟨W,1,none⟩) (hgrow2.block W (Nat.lt_of_lt_of_le R0.lt R0.le) hne2)];exact R0.thaw 1
   obtain⟨g'',cap'',hv''⟩:=aB hown2 (by omega)
   rw[hv'']at R2 K2 G2⊢;have HR2:Hid _:=R2;have HG2:Hid _:=G2;have HK2:Hid _:=K2;clear hown2 hgrow2 hat2 R2 G2 K2 HR1 HG1 HK1 R0;go_wp2;go_roundw
   case rel=>
    refine⟨k+1,by omega,by go_num,HK2.out,_,_,?_,HG2.out⟩
    rw[HTK.out,HFK.out];exact HR2.out
   case measure=>simp [intOf];omega
  ·have e:k=n:=(by omega);subst e;have HT:Hid (xs.take k=xs):=by show xs.take k=xs;rw[←hn];exact List.take_length
   go_wp2;go_end0
   exact⟨rfl,⟨_,_,by rw[HT.out]at hR;exact hR⟩,hK⟩
def fG (f:Nat→Bool)(p:Nat):Nat:=p+2*cK f p
def rV (f:Nat→Bool)(p:Nat):Nat:=p+2*cK f (p+1)
theorem tH (f:Nat→Bool)(p:Nat):cK f (p+1)=cK f p+if f p then 1 else 0:=rfl
theorem nZ {f:Nat→Bool}{p:Nat}(h:f p=true):rV f p=fG f p+2:=by
 unfold rV fG;rw[tH,h,if_pos rfl];omega
theorem zR {f:Nat→Bool}{p:Nat}(h:f p=false):rV f p=fG f p:=by
 unfold rV fG;rw[tH,h];simp
theorem kO (f:Nat→Bool)(p:Nat):fG f (p+1)=rV f p+1:=by unfold rV fG;omega
theorem uU (f:Nat→Bool)(p:Nat):fG f p≤rV f p:=by
 cases h:f p
 ·rw[zR h];omega
 ·rw[nZ h];omega
theorem zS (f:Nat→Bool)(p:Nat):∀d,fG f p≤fG f (p+d)
 |0=>Nat.le_refl _
 |d+1=>by have:=zS f p d;have:=uU f (p+d);rw[←Nat.add_assoc,kO];omega
theorem zT {f:Nat→Bool}{p r:Nat}(h:p≤r):fG f p≤fG f r:=by
 have:=zS f p (r-p);rw[show p+(r-p)=r by omega]at this;exact this
def sw (c:Nat→Int)(N p:Nat):Bool:=(List.range N).any fun t=>aW (c (pos c t))&&pos c t+1==p
def tr (c:Nat→Int)(N p:Nat):Int:=if sw c N p then c p+2*cK (aT c N) (c p).toNat else c p
def bL (c:Nat→Int)(N:Nat):Nat→List Int
 |0=>[]
 |p+1=>bL c N p++((if aT c N p then[20,(cK (aT c N) p:Int)]else[])++[tr c N p])
def bf (c:Nat→Int)(N:Nat):Nat→List Int
 |0=>[]
 |p+1=>bf c N p++((if aT c N p then[-1,-1]else[])++[(p:Int)])
theorem iQ (c:Nat→Int)(N:Nat):∀p,(bL c N p).length=fG (aT c N) p
 |0=>rfl
 |p+1=>by
  unfold bL;rw[List.length_append,List.length_append,iQ c N p,kO]
  cases h:aT c N p
  ·rw[zR h];simp
  ·rw[nZ h];simp
theorem cr (c:Nat→Int)(N:Nat):∀p,(bf c N p).length=fG (aT c N) p
 |0=>rfl
 |p+1=>by
  unfold bf;rw[List.length_append,List.length_append,cr c N p,kO]
  cases h:aT c N p
  ·rw[zR h];simp
  ·rw[nZ h];simp
theorem tI (c:Nat→Int)(N p:Nat):∀d,∀j,j<fG (aT c N) p→(bf c N (p+d))[j]?=(bf c N p)[j]?
 |0,_,_=>rfl
 |d+1,j,hj=>by
  rw[←Nat.add_assoc]
  show(bf c N (p+d)++_)[j]?=_
  rw[List.getElem?_append_left (by rw[cr];have:=zS (aT c N) p d;omega)];exact tI c N p d j hj
theorem FF (c:Nat→Int)(N:Nat){p L:Nat}(h:p<L)(j:Nat)(hj:j<fG (aT c N) (p+1)):(bf c N L)[j]?=(bf c N p++((if aT c N p then[-1,-1]else[])++[(p:Int)]))[j]?:=by
 have:=tI c N (p+1) (L-(p+1)) j hj
 rw[show p+1+(L-(p+1))=L by omega]at this;exact this
theorem Iu (c:Nat→Int)(N:Nat){p L:Nat}(h:p<L):(bf c N L)[rV (aT c N) p]?=some (p:Int):=by
 rw[FF c N h _ (by rw[kO];omega),List.getElem?_append_right (by rw[cr];exact uU _ _),cr]
 cases hb:aT c N p
 ·rw[zR hb,Nat.sub_self];rfl
 ·rw[nZ hb,Nat.add_sub_cancel_left];rfl
def pc (c:Nat→Int)(N L:Nat)(j:Nat):Int:=(bL c N L).getD j 0
def pf (c:Nat→Int)(N L:Nat)(j:Nat):Int:=(bf c N L).getD j 0
theorem VP.LD {c:Nat→Int}{L N:Nat}(V:VP c L N){t m:Nat}(h:t<m)(hm:m≤N):pos c t+bp (c (pos c t)).toNat≤pos c m:=by
 have:=V.mono (m:=t+1) (m-(t+1)) (by omega)
 rw[show t+1+(m-(t+1))=m by omega]at this;have e:pos c (t+1)=pos c t+bp (c (pos c t)).toNat:=rfl;omega
theorem VP.inj {c:Nat→Int}{L N:Nat}(V:VP c L N){t m:Nat}(ht:t<N)(hm:m<N)(h:pos c t=pos c m):t=m:=by
 rcases Nat.lt_trichotomy t m with q|q|q
 ·have h1:=V.LD q (by omega);obtain⟨kk,A,_⟩:=V.at ht;have:=A.pos;rw[A.op]at h1;rw[Int.toNat_natCast]at h1;omega
 ·exact q
 ·have h1:=V.LD q (by omega);obtain⟨kk,A,_⟩:=V.at hm;have:=A.pos;rw[A.op]at h1;rw[Int.toNat_natCast]at h1;omega
theorem VP.inside {c:Nat→Int}{L N:Nat}(V:VP c L N){t m:Nat}(ht:t<N)(hm:m<N)(h2:bp (c (pos c m)).toNat=2):pos c t≠pos c m+1:=by
 intro h;rcases Nat.lt_trichotomy t m with q|q|q
 ·have h1:=V.LD q (by omega);omega
 ·subst q;omega
 ·have h1:=V.LD q (by omega);omega
theorem VP.FH {c:Nat→Int}{L N:Nat}(V:VP c L N){i:Nat}(h:aT c N i=true):∃t,t<N∧pos c t=i:=by
 unfold aT at h;rw[List.any_eq_true]at h
 obtain⟨t,ht,e⟩:=h
 have ht':=List.mem_range.1 ht;simp only[Bool.or_eq_true,Bool.and_eq_true,beq_iff_eq]at e;rcases e with⟨_,e⟩|⟨e1,e2⟩
 ·exact⟨t,ht',e⟩
 ·obtain⟨s,hs,e3⟩:=V.jump t ht' e1
  exact⟨s,hs,by omega⟩
theorem VP.leadsTo {c:Nat→Int}{L N:Nat}(_:VP c L N){m t:Nat}(hm:m<N)(hl:aW (c (pos c m))=true)(e:c (pos c m+1)=(t:Int)):aT c N t=true:=by
 unfold aT;rw[List.any_eq_true]
 exact⟨m,List.mem_range.2 hm,by rw[hl,e];simp⟩
theorem VP.first {c:Nat→Int}{L N:Nat}(V:VP c L N):aT c N 0=true:=by
 unfold aT;rw[List.any_eq_true]
 exact⟨0,List.mem_range.2 V.one,by simp[dI,pos]⟩
theorem VP.Iv {c:Nat→Int}{L N:Nat}(V:VP c L N){m:Nat}(hm:m<N)(h2:bp (c (pos c m)).toNat=2):aT c N (pos c m+1)=false:=by
 cases h:aT c N (pos c m+1)with
 |false=>rfl
 |true=>obtain ⟨t,ht,e⟩:=V.FH h;exact absurd e (V.inside ht hm h2)
theorem rI {k:Int}(h:aW k=true):bp k.toNat=2:=by
 unfold aW at h;simp at h;rcases h with h|h<;>rw [h]<;>rfl
theorem VP.Lg {c:Nat→Int}{L N:Nat}(V:VP c L N){m:Nat}(hm:m<N):tr c N (pos c m)=c (pos c m):=by
 unfold tr
 have:sw c N (pos c m)=false:=by
  cases h:sw c N (pos c m)with
  |false=>rfl
  |true=>
   unfold sw at h;rw[List.any_eq_true]at h
   obtain⟨t,ht,e⟩:=h
   simp only[Bool.and_eq_true,beq_iff_eq]at e;exact absurd e.2.symm (V.inside hm (List.mem_range.1 ht) (rI e.1))
 rw[this];rfl
theorem VP.Lh {c:Nat→Int}{L N:Nat}(V:VP c L N){m:Nat}(hm:m<N)(h2:bp (c (pos c m)).toNat=2):tr c N (pos c m+1)=if aW (c (pos c m))then c (pos c m+1)+2*cK (aT c N) (c (pos c m+1)).toNat else c (pos c m+1):=by
 unfold tr
 have:sw c N (pos c m+1)=aW (c (pos c m)):=by
  cases h:aW (c (pos c m))with
  |true=>unfold sw;rw[List.any_eq_true];exact⟨m,List.mem_range.2 hm,by rw[h];simp⟩
  |false=>
   cases h':sw c N (pos c m+1)with
   |false=>rfl
   |true=>
    unfold sw at h';rw[List.any_eq_true]at h'
    obtain⟨t,ht,e⟩:=h'
    simp only[Bool.and_eq_true,beq_iff_eq]at e
    have:=V.inj (List.mem_range.1 ht) hm (by omega)
    subst this;rw[h]at e;cases e.1
 rw[this]
theorem VP.xM {c:Nat→Int}{L N:Nat}(V:VP c L N):fG (aT c N) L≤240:=by
 have:=gy (aT c N) L
 have:=V.most
 unfold fG;omega
theorem zU (f:Nat→Bool)(p:Nat):cK f p≤p:=gy f p
theorem VP.Kj {c:Nat→Int}{L N:Nat}(V:VP c L N){p:Nat}(hp:p<L):0≤tr c N p∧tr c N p≤255:=by
 have hb:=V.byte p hp;have hm:=V.most;unfold tr
 cases h:sw c N p with
 |false=>exact hb
 |true=>
  unfold sw at h;rw[List.any_eq_true]at h
  obtain⟨t,ht,e⟩:=h
  simp only[Bool.and_eq_true,beq_iff_eq]at e
  obtain⟨s,hs,e3⟩:=V.jump t (List.mem_range.1 ht) e.1
  have h4:=V.lt hs;rw[e.2]at e3
  have:=gy (aT c N) (c p).toNat
  rw[if_pos rfl];omega
theorem VP.B7 {c:Nat→Int}{L N:Nat}(V:VP c L N):∀p,p≤L→∀x∈bL c N p,0≤x∧x≤255
 |0,_,x,hx=>by cases hx
 |p+1,h,x,hx=>by
  unfold bL at hx;rw[List.mem_append,List.mem_append]at hx;have hm:=V.most;rcases hx with hx|hx|hx
  ·exact V.B7 p (by omega) x hx
  ·cases hb:aT c N p with
   |false=>rw [hb]at hx;cases hx
   |true=>
    rw[hb]at hx;simp at hx
    have:=gy (aT c N) p
    rcases hx with rfl|rfl<;>omega
  ·simp at hx;subst hx;exact V.Kj (by omega)
theorem qo {x:Int}(h0:0≤x)(h1:x≤255):IntKind.u8.wrap x=x:=by
 simp[IntKind.wrap,IntKind.signed,IntKind.bits];omega
theorem tK (w:World)(t:Nat)(G L:Nat)(f:Nat→Int)(hh:w.heap[G]?=some (.cells (il L f).toArray 3 (0,0)))(ht:t<L)(hL:L≤80)(hf0:0≤f t)(hf1:f t≤t)(hT:bK w):
  Calls Tryz.prog 115 #[.int .u8 (t:Int),.slice (some ⟨G,0,none⟩) L L] w fun e w'=>e=.returned (.int .u8 ((t:Int)+2*f t))∧∃cc,w'=w.drew.alloc (.cells cc 176):=by
 have hfs:=dD;have hc:w.cell? ⟨G,t,none⟩=some (.int .i64 (f t)):=by
  rw[cell_of_row w G _ _ _ _ hh,List.getElem?_toArray];exact jF L _ _ ht
 have hlt:G<w.heap.size:=(Array.getElem?_eq_some_iff.1 hh).1;have hi1:(t:Int)<(L:Int):=by omega
 have HT:Hid (bK w.drew):=fun k hk=>hT k hk
 have ht0:(0:Int)≤(t:Int):=by omega
 have HV:Hid (IntKind.u8.wrap ((t:Int)+IntKind.u8.wrap (IntKind.i64.wrap (f t*aX 60)))=(t:Int)+2*f t):=by
  show IntKind.u8.wrap ((t:Int)+IntKind.u8.wrap (IntKind.i64.wrap (f t*aX 60)))=_;have e:aX 60=2:=rfl;have e2:IntKind.i64.wrap (f t*2)=f t*2:=by
   simp[IntKind.wrap,IntKind.signed,IntKind.bits];omega
  rw[e,e2,qo (x:=f t*2) (by omega) (by omega),qo (by omega) (by omega)];omega
 clear hh hT;go_in;go_wp2_with fail
 go_region_with(go_at_call 112;refine(ak 20 (by omega) _ HT.out).mono ?_;rintro e w' ⟨rfl,cc2,rfl⟩)
 all_goals
  go_wp2;go_ret
  exact⟨congrArg (fun x=>Ending.returned (.int .u8 x)) HV.out,_,rfl⟩
def jr (c:Nat→Int)(N m:Nat):List Int:=if bp (c (pos c m)).toNat=2 then(if aW (c (pos c m))then[c (pos c m),c (pos c m+1)+2*cK (aT c N) (c (pos c m+1)).toNat]else[c (pos c m),c (pos c m+1)])else[c (pos c m)]
theorem VP.zX {c:Nat→Int}{L N:Nat}(V:VP c L N){m:Nat}(hm:m<N):
  bL c N (pos c (m+1))=(bL c N (pos c m)++(if aT c N (pos c m)then[20,(cK (aT c N) (pos c m):Int)]else[]))++jr c N m∧
  bf c N (pos c (m+1))=(bf c N (pos c m)++(if aT c N (pos c m)then[-1,-1]else[]))++iC (pos c m) (bp (c (pos c m)).toNat):=by
 have e:pos c (m+1)=pos c m+bp (c (pos c m)).toNat:=rfl
 obtain⟨kk,A,_⟩:=V.at hm
 have hk:=A.k
 obtain⟨s1,s2,_⟩:=bS (c (pos c m)).toNat (by rw[A.op,Int.toNat_natCast];omega)
 rw[e];by_cases h:bp (c (pos c m)).toNat=2
 ·have hb:=V.Iv hm h;unfold jr;rw[h,if_pos rfl,show pos c m+2=pos c m+1+1 by omega];constructor
  ·rw[bL,bL,hb,V.Lg hm,V.Lh hm h]
   cases aW (c (pos c m))<;>simp
  ·rw[bf,bf,hb];simp[iC,List.range_succ]
 ·have h1:bp (c (pos c m)).toNat=1:=by omega
  unfold jr;rw[if_neg h,h1];constructor
  ·rw[bL,V.Lg hm];simp
  ·rw[bf];simp[iC,List.range_succ]
theorem jK {n base W:Nat}{w w2 wr:World}(h:Below n w w2)(k:Kept base W w2 wr)(h1:n≤W)(h2:W<base):Below n w wr:=
 ⟨k.os.trans h.os,k.tape.trans h.tape,k.output.trans h.output,Nat.le_trans h.size k.size,fun i hi=>(k.block i (by omega) (by omega)).trans (h.block i hi)⟩
end Go.Proofs.YtmpgjkhchfcjlaaGreatDoor
