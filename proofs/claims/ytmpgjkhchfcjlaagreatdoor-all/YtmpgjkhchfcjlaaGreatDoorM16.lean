import Derived.Test.YtmpgjkhchfcjlaaGreatDoorM13
import Derived.Test.YtmpgjkhchfcjlaaGreatDoorM14
namespace Go.Proofs.YtmpgjkhchfcjlaaGreatDoor
open Go.RowKit
set_option maxRecDepth 100000
set_option maxHeartbeats 4000000
theorem BV (w:World)(l:List Int)(k n:Nat)(hl:iL l)(hm:l.length+k+n≤9223372036854775807):
  eM (w.alloc (.cells ((l.map (Value.int .u8)).toArray++Builtin.zeroCells (Value.int .u8 0).cells k++Builtin.zeroCells (Value.int .u8 0).cells n) 5)) w.heap.size (l.length+k+n) l where
 cell:=fun i hi=>by
  rw[World.cell?_alloc_new,Array.append_assoc,Array.getElem?_append_left (by simp;exact hi)];simp[List.getD_eq_getElem?_getD,List.getElem?_eq_getElem hi]
 room:=fun i hi=>by
  rw[World.cell?_alloc_new,Array.getElem?_eq_getElem (by simp[Builtin.zeroCells,Value.cells];omega)];rfl
 iy:=fun i _=>World.frozen?_alloc_at (w:=w) _ _ w.heap.size i rfl
 le:=by omega
 most:=hm
 lt:=by simp
 wE:=hl
theorem ur {w w':World}(h:w.heap=w'.heap)(a:Addr)(v:Value):(w.setCell a v).heap=(w'.setCell a v).heap:=by
 unfold World.setCell;dsimp only;rw[h]
theorem jH (b:Nat):∀(vs:List Value) (o:Nat) {w w':World},w.heap=w'.heap→(w.setCells b o vs).heap=(w'.setCells b o vs).heap
 |[],_,_,_,h=>h
 |v::r,o,_,_,h=>jH b r (o+1) (ur h _ v)
theorem wF (w:World)(g cap i vb:Nat)(l:List Int)(v:Int)(h:eM w g cap l)(hL:l.length≤1000)(hi:i<l.length)(hroom:cap<l.length+1)(H1:One w vb v)(h0:0≤v)(h1:v≤255):
  Calls Tryz.prog 189 #[.slice (some ⟨g,0,none⟩) l.length cap,.int .i64 i,.slice (some ⟨vb,0,none⟩) 1 1] w (cD w g (l.take i++v::l.drop i)):=by
 obtain⟨i0,hi0,hz0,hzs,hzb⟩:=lB
 have hm:=h.most;have hle:=h.le;have hbw:=h.lt;have hvw:=H1.lt;have hkk:(l.length:Int)+1-(i:Int)=((l.length+1-i:Nat):Int):=by omega
 have hik:i+(l.length+1-i)=l.length+1:=by omega
 have hold:(Builtin.firstCells i0.size i (.slice (some ⟨g,0,none⟩) i cap)).run Tryz.prog w.drew=.ok ((l.take i).map (Value.int .u8)).toArray w.drew:=by
  rw[hzs];exact run_firstCells_some w.drew 1 i ⟨g,0,none⟩ i cap ((l.take i).map (Value.int .u8)) (by simp;omega) (fun j u hj=>by
   rw[Addr.add_lit]
   exact((h.drew.take i).get 0 j u (by simpa using hj)))
 have hrz:∀ty,(Builtin.append_ #[39,3] ty #[.slice (some ⟨g,0,none⟩) i cap,.int .i64 ((l.length:Int)+1-(i:Int))]).run Tryz.prog w=
   .ok (.slice (some ⟨w.heap.size,0,none⟩) (l.length+1) (grownCap w (l.length+1) cap 5)) (w.drew.alloc (.cells (((l.take i).map (Value.int .u8)).toArray++Builtin.zeroCells (Value.int .u8 0).cells (l.length+1-i)++Builtin.zeroCells (Value.int .u8 0).cells (grownCap w (l.length+1) cap 5-(l.length+1))) 5)):=fun ty=>by
  have h':=Lib.run_append_grow_zeros w 39 3 ty 5 i0 _ .i64 .i64 Tryz.underlying39 Tryz.underlying3 hi0 hz0 (some ⟨g,0,none⟩) i cap ((l.take i).map (Value.int .u8)) hold (l.length+1-i) (by omega) (by omega) (by omega) (by omega) (by rw[hzb];omega) (by rw[hzb,hik];exact growslice_fits hroom (by omega));rw[hik]at h';rw[hkk];exact h'
 have hGn:l.length+1≤grownCap w (l.length+1) cap 5:=grownCap_ge w _ _ _;have hmx:=grownCap_le_maxLen w (l.length+1) cap 5 (by unfold maxLen;omega)
 obtain⟨G,hG⟩:∃G,G=grownCap w (l.length+1) cap 5:=⟨_,rfl⟩
 rw[←hG]at hrz hGn hmx;have hG63:G≤9223372036854775807:=by unfold maxLen at hmx;omega
 have hlt:(l.take i).length=i:=by simp;omega
 have TZ:=BV w.drew (l.take i) (l.length+1-i) (G-(l.length+1)) (h.wE.take i) (by rw[hlt];omega);rw[hlt,show i+(l.length+1-i)+(G-(l.length+1))=G by omega]at TZ
 obtain⟨ROW,hROW⟩:∃ROW:Array Value,ROW=((l.take i).map (Value.int .u8)).toArray++Builtin.zeroCells (Value.int .u8 0).cells (l.length+1-i)++Builtin.zeroCells (Value.int .u8 0).cells (G-(l.length+1)):=⟨_,rfl⟩
 rw[←hROW]at hrz TZ;have T0:=TZ
 obtain⟨W1,hW1⟩:∃W1,W1=w.drew.alloc (.cells ROW 5):=⟨_,rfl⟩
 rw[←hW1]at hrz T0;have hOb:∀j u,w.cell? ⟨g,j,none⟩=some u→W1.cell? ⟨g,j,none⟩=some u:=fun j u hu=>by rw[hW1,World.cell?_alloc_past (w:=w.drew) _ g j hbw];exact hu
 have hOv:W1.cell? ⟨vb,0,none⟩=some (.int .u8 v):=by rw[hW1,World.cell?_alloc_past (w:=w.drew) _ vb 0 hvw];exact H1.cell
 have hcpA:∀(W:World),(∀x,W.cell? x=W1.cell? x)→(∀x,W.frozen? x=W1.frozen? x)→∀ty dc,(Builtin.copy_ #[39,39] ty #[.slice (some ⟨w.heap.size,i,none⟩) (l.length+1-i) dc,.slice (some ⟨vb,0,none⟩) 1 1]).run Tryz.prog W=.ok (goInt 1) (W.setCells w.heap.size i [.int .u8 v]):=fun W hWc hWf ty dc=>
  run_copy_cells W _ _ ty 5 w.heap.size i (l.length+1-i) dc ⟨vb,0,none⟩ 1 1 [.int .u8 v] Tryz.underlying39 uo (by simp only[Nat.min_def,List.length_cons,List.length_nil];split<;>omega)
   (fun j u hj=>by
    cases j with
    |zero=>simp at hj;subst hj;rw[Addr.add_lit,hWc];exact hOv
    |succ j=>simp at hj)
   (fun j hj=>by rw[hWc];simp at hj;exact T0.room _ (by omega)) (fun j hj=>by rw[hWf];simp at hj;exact T0.iy _ (by omega)) (by intro u hu;simp at hu;subst hu;rfl)
 have hbN:g≠w.heap.size:=by omega
 obtain⟨cs,hcs⟩:∃cs,cs=(l.drop i).map (Value.int .u8):=⟨_,rfl⟩
 have hdl:cs.length=l.length-i:=by rw[hcs];simp
 have T1:=T0.put i [v] (by rw[hlt];omega) (by simp;omega) (fE h0 h1);have hcpB:∀(W:World),(∀x,W.cell? x=(W1.setCells w.heap.size i [.int .u8 v]).cell? x)→(∀x,W.frozen? x=(W1.setCells w.heap.size i [.int .u8 v]).frozen? x)→∀ty dc sc,(Builtin.copy_ #[39,39] ty #[.slice (some ⟨w.heap.size,i+1,none⟩) (l.length-i) dc,.slice (some ⟨g,i,none⟩) (l.length-i) sc]).run Tryz.prog W=.ok (goInt cs.length) (W.setCells w.heap.size (i+1) cs):=fun W hWc hWf ty dc sc=>
  run_copy_cells W _ _ ty 5 w.heap.size (i+1) (l.length-i) dc ⟨g,i,none⟩ (l.length-i) sc cs Tryz.underlying39 uo (by rw[hdl];simp)
   (fun j u hj=>by
    rw[Addr.add_lit,hWc,World.cell?_setCells_out _ _ _ _ _ (fun hh _=>absurd hh hbN)];rw[hcs]at hj;exact hOb _ u (h.get i j u hj))
   (fun j hj=>by rw[hWc];exact T1.room _ (by omega))
   (fun j hj=>by rw[hWf];exact T1.iy _ (by omega)) (by rw[hcs];exact qQ _)
 have T2:=T1.put (i+1) (l.drop i) (by simp;omega) (by simp;omega) (h.wE.drop i);have eT:List.take (i+1) (List.take i (List.take i l)++[v]++List.drop (i+[v].length) (List.take i l))++List.drop i l++List.drop (i+1+(List.drop i l).length) (List.take i (List.take i l)++[v]++List.drop (i+[v].length) (List.take i l))=l.take i++v::l.drop i:=by
  have e1:List.drop (i+[v].length) (List.take i l)=[]:=List.drop_of_length_le (by simp;omega);have e2:List.drop (i+1+(List.drop i l).length) (List.take i l++[v])=[]:=List.drop_of_length_le (by simp;omega);have e3:List.take (i+1) (List.take i l++[v])=List.take i l++[v]:=List.take_of_length_le (by simp;omega);rw[e1,List.append_nil,List.take_take,Nat.min_self,e2,List.append_nil,e3]
  simp
 rw[eT]at T2;have HT:Hid (eM ((W1.setCells w.heap.size i [.int .u8 v]).setCells w.heap.size (i+1) cs) w.heap.size G (l.take i++v::l.drop i)):=by rw[hcs];exact T2
 subst hW1;have hE1:∀x,((w.alloc (.cells ROW 5)).drew).cell? x=(w.drew.alloc (.cells ROW 5)).cell? x:=fun x=>rfl
 have hE2:∀x,((w.alloc (.cells ROW 5)).drew).frozen? x=(w.drew.alloc (.cells ROW 5)).frozen? x:=fun x=>rfl
 have hF1:∀x,(((w.alloc (.cells ROW 5)).drew.setCells w.heap.size i [.int .u8 v]).drew).cell? x=((w.drew.alloc (.cells ROW 5)).setCells w.heap.size i [.int .u8 v]).cell? x:=fun x=>rfl
 have hF2:∀x,(((w.alloc (.cells ROW 5)).drew.setCells w.heap.size i [.int .u8 v]).drew).frozen? x=((w.drew.alloc (.cells ROW 5)).setCells w.heap.size i [.int .u8 v]).frozen? x:=fun x=>rfl
 have hz2:¬((i:Int)=(l.length:Int)):=by omega
 have hz3:(cap:Int)<(l.length:Int)+1:=by omega
 have hin:i≤l.length:=by omega
 have hw1:IntKind.i64.wrap ((i:Int)+1)=(i:Int)+1:=by rw[IntKind.wrap_i64];omega
 have htn:((i:Int)+1).toNat=i+1:=by omega
 have hb1:(0:Int)≤(i:Int)+1:=by omega
 have hb3:(i:Int)≤(l.length:Int):=by omega
 have hb5:(i:Int)+1≤(l.length:Int)+1:=by omega
 have hb6:(i:Int)≤(l.length:Int)+1:=by omega
 have hGi:¬(G=i):=by omega
 have hGim:¬(G=i+1):=by omega
 have hci:¬(cap=i):=by omega
 have HI:=hid hi;generalize hLn:l.length=L at*;clear T0 T1 T2 TZ h hdl hcs hROW hold hkk hik hG H1 hOb hOv hlt;go_in;go_wp2_with(first
  |(at_builtin;refine Lib.wpList_append_run _ rfl _ _ _ _ rfl _ _ rfl rfl _ _ (hrz _) ?_)
  |(at_builtin;refine jW _ rfl _ _ 39 39 rfl _ _ rfl rfl (hcpA _ hE1 hE2 _ _) ?_))
 go_region_law(refine lC rfl _ _ 39 39 rfl (.slice (some ⟨w.heap.size,i+1,none⟩) (L-i) (G-(i+1))) (.slice (some ⟨g,i,none⟩) (L-i) (cap-i)) (by simp[Act.eval,Act.put]) (by simp[Act.eval,Act.put]) (hcpB _ hF1 hF2 3 (G-(i+1)) (cap-i)) ?_)
 go_wp2;go_ret;have hi:=HI.out
 refine⟨w.heap.size,G,by omega,by rw[uh _ _ _ (by omega),hLn];rfl,?_,?_⟩
 ·have e:(((w.alloc (.cells ROW 5)).drew.setCells w.heap.size i [.int .u8 v]).drew.setCells w.heap.size (i+1) cs).heap=(((w.drew.alloc (.cells ROW 5)).setCells w.heap.size i [.int .u8 v]).setCells w.heap.size (i+1) cs).heap:=jH _ _ _ (jH _ _ _ rfl);exact HT.out.of_block (by rw[e]) (by rw[e];exact Nat.le_refl _)
 refine Below.mono (B:=w.heap.size) ?_ (by omega);exact fe _ (fe _ ((Below.refl _ _).alloc (Nat.le_refl _) _).drew).drew
theorem qR (w:World)(g cap i vb:Nat)(l:List Int)(v:Int)(h:eM w g cap l)(hL:l.length≤1000)(hi:i≤l.length)(H1:One w vb v)(hvb:vb≠g)(h0:0≤v)(h1:v≤255):
  Calls Tryz.prog 189 #[.slice (some ⟨g,0,none⟩) l.length cap,.int .i64 i,.slice (some ⟨vb,0,none⟩) 1 1] w (cD w g (l.take i++v::l.drop i)):=by
 by_cases hr:l.length+1≤cap
 ·by_cases e:i<l.length
  ·exact uq w g cap i vb l v h e hr H1 hvb h0 h1
  ·obtain rfl:i=l.length:=by omega
   rw[List.take_length,List.drop_length];exact pX w g cap vb l v h hr H1 h0 h1
 ·by_cases e:i<l.length
  ·exact wF w g cap i vb l v h hL e (by omega) H1 h0 h1
  ·obtain rfl:i=l.length:=by omega
   rw[List.take_length,List.drop_length];exact pY w g cap vb l v h hL (by omega) H1 h0 h1
theorem nJ {w w':World}{g cap:Nat}{l:List Int}(h:eM w g cap l)(q:Nat)(v:Int)(hq:q<l.length)(h0:0≤v)(h1:v≤255){e:Ending}
  (H:e=.returned (.slice (some ⟨g,0,none⟩) l.length cap)∧∃n,w'=(w.drewN n).setCell ⟨g,q,none⟩ (.int .u8 v)):cD w g (l.set q v) e w':=by
 obtain⟨rfl,n,rfl⟩:=H
 exact⟨g,cap,Nat.le_refl _,by rw[List.length_set],(h.drewN n).set q v hq h0 h1,(Below.mk rfl rfl rfl (Nat.le_refl _) (fun _ _=>rfl):Below g w (w.drewN n)).setCell (Nat.le_refl _) _⟩
section
variable (w:World) (g cap L q:Nat) (x:Int) (hc:w.cell? ⟨g,q,none⟩=some (.int .u8 x)) (hf:w.frozen? ⟨g,q,none⟩=false) (hq:q<L) (hL:L≤1000)
include hc hf hq
include hL in
theorem BZ (k r:Nat)(hk:k=8*q+r)(hr:r<8):
  Calls Tryz.prog 155 #[.slice (some ⟨g,0,none⟩) L cap,.int .i64 k] w fun e w'=>e=.returned (.slice (some ⟨g,0,none⟩) L cap)∧∃n,w'=(w.drewN n).setCell ⟨g,q,none⟩ (.int .u8 (bits .xor .u8 x (2^(7-r)))):=by
 have h1:(k:Int)/8=(q:Int):=by omega
 have h2:(k:Int)%8=(r:Int):=by omega
 have h3:(q:Int)<(L:Int):=by omega
 have h4:(0:Int)≤(k:Int):=by omega
 generalize(k:Int)=K at*
 clear hk;match r,hr with
 |0,_|1,_|2,_|3,_|4,_|5,_|6,_|7,_=>
  simp at h2;go_in;go_wp2_with fail
  go_region
  all_goals
   go_wp2;go_ret
   exact⟨rfl,1,rfl⟩
 |r+8,h=>omega
theorem yI:
  Calls Tryz.prog 157 #[.slice (some ⟨g,0,none⟩) L cap,.int .i64 (q:Nat)] w fun e w'=>e=.returned (.slice (some ⟨g,0,none⟩) L cap)∧∃n,w'=(w.drewN n).setCell ⟨g,q,none⟩ (.int .u8 (bits .xor .u8 x 255)):=by
 have h3:(q:Int)<(L:Int):=by omega
 go_in;go_wp2;go_ret
 exact⟨rfl,0,rfl⟩
include hL in
theorem raise_at (k r:Nat)(hk:k=4*q+r)(hr:r<4):
  Calls Tryz.prog 158 #[.slice (some ⟨g,0,none⟩) L cap,.int .i64 k] w fun e w'=>e=.returned (.slice (some ⟨g,0,none⟩) L cap)∧∃n,w'=(w.drewN n).setCell ⟨g,q,none⟩ (.int .u8 ((x+(r+1:Nat))%256)):=by
 have h1:(k:Int)/4=(q:Int):=by omega
 have h2:(k:Int)%4=(r:Int):=by omega
 have h3:(q:Int)<(L:Int):=by omega
 have h4:(0:Int)≤(k:Int):=by omega
 generalize(k:Int)=K at*
 clear hk;match r,hr with
 |0,_|1,_|2,_|3,_=>
  simp at h2;go_in;go_wp2;go_ret
  exact⟨rfl,0,rfl⟩
 |r+4,h=>omega
include hL in
theorem Ef (k r:Nat)(hk:k=4*q+r)(hr:r<4):
  Calls Tryz.prog 159 #[.slice (some ⟨g,0,none⟩) L cap,.int .i64 k] w fun e w'=>e=.returned (.slice (some ⟨g,0,none⟩) L cap)∧∃n,w'=(w.drewN n).setCell ⟨g,q,none⟩ (.int .u8 ((x-(r+1:Nat))%256)):=by
 have h1:(k:Int)/4=(q:Int):=by omega
 have h2:(k:Int)%4=(r:Int):=by omega
 have h3:(q:Int)<(L:Int):=by omega
 have h4:(0:Int)≤(k:Int):=by omega
 generalize(k:Int)=K at*
 clear hk;match r,hr with
 |0,_|1,_|2,_|3,_=>
  simp at h2;go_in;go_wp2;go_ret
  exact⟨rfl,0,rfl⟩
 |r+4,h=>omega
def kT (w:World):Prop:=∀k:Nat,k<5→w.cell? ⟨1,k,none⟩=some (.int .u8 (nD k))
include hL in
theorem Hs (hM:kT w)(k r:Nat)(hk:k=5*q+r)(hr:r<5):
  Calls Tryz.prog 160 #[.slice (some ⟨g,0,none⟩) L cap,.int .i64 k] w fun e w'=>e=.returned (.slice (some ⟨g,0,none⟩) L cap)∧∃n,w'=(w.drewN n).setCell ⟨g,q,none⟩ (.int .u8 (nD r)):=by
 have h1:(k:Int)/5=(q:Int):=by omega
 have h2:(k:Int)%5=(r:Int):=by omega
 have h3:(q:Int)<(L:Int):=by omega
 have h4:(0:Int)≤(k:Int):=by omega
 have hm0:=hM r hr;have hz:=World.block_lt_of_cell? w ⟨1,0,none⟩ (hM 0 (by omega));clear hM
 generalize(k:Int)=K at*
 clear hk;match r,hr with
 |0,_|1,_|2,_|3,_|4,_=>
  simp at h2;go_in;go_wp2;go_ret
  exact⟨rfl,0,rfl⟩
 |r+5,h=>omega
end
theorem wG (k:Nat):0≤nD k∧nD k≤255:=by
 unfold nD;match k with
 |0|1|2|3|4=>decide
 |k+5=>simp
section
variable (w:World) (g cap:Nat) (l:List Int) (h:eM w g cap l) (hL:l.length≤1000)
include h hL
theorem kC (k:Nat)(hk:k<8*l.length):Calls Tryz.prog 155 #[.slice (some ⟨g,0,none⟩) l.length cap,.int .i64 k] w (cD w g (e9 l k)):=by
 have hq:k/8<l.length:=by omega
 exact(BZ w g cap l.length (k/8) _ (h.at _ hq).1 (h.at _ hq).2 hq hL k (k%8) (by omega) (by omega)).mono fun _ _ H=>nJ h _ _ hq (jv _ _ _).1 (jv _ _ _).2 H
omit hL in
theorem wH (k:Nat)(hk:k<l.length):Calls Tryz.prog 157 #[.slice (some ⟨g,0,none⟩) l.length cap,.int .i64 k] w (cD w g (l.set k (bits .xor .u8 (l.getD k 0) 255))):=
 (yI w g cap l.length k _ (h.at _ hk).1 (h.at _ hk).2 hk).mono fun _ _ H=>nJ h _ _ hk (jv _ _ _).1 (jv _ _ _).2 H
theorem C7 (k:Nat)(hk:k<4*l.length):Calls Tryz.prog 158 #[.slice (some ⟨g,0,none⟩) l.length cap,.int .i64 k] w (cD w g (l.set (k/4) ((l.getD (k/4) 0+(k%4+1:Nat))%256))):=by
 have hq:k/4<l.length:=by omega
 exact(raise_at w g cap l.length (k/4) _ (h.at _ hq).1 (h.at _ hq).2 hq hL k (k%4) (by omega) (by omega)).mono fun _ _ H=>nJ h _ _ hq (by omega) (by omega) H
theorem C8 (k:Nat)(hk:k<4*l.length):Calls Tryz.prog 159 #[.slice (some ⟨g,0,none⟩) l.length cap,.int .i64 k] w (cD w g (l.set (k/4) ((l.getD (k/4) 0-(k%4+1:Nat))%256))):=by
 have hq:k/4<l.length:=by omega
 exact(Ef w g cap l.length (k/4) _ (h.at _ hq).1 (h.at _ hq).2 hq hL k (k%4) (by omega) (by omega)).mono fun _ _ H=>nJ h _ _ hq (by omega) (by omega) H
theorem Eg (hM:kT w)(k:Nat)(hk:k<5*l.length):Calls Tryz.prog 160 #[.slice (some ⟨g,0,none⟩) l.length cap,.int .i64 k] w (cD w g (l.set (k/5) (nD (k%5)))):=by
 have hq:k/5<l.length:=by omega
 exact(Hs w g cap l.length (k/5) _ (h.at _ hq).1 (h.at _ hq).2 hq hL hM k (k%5) (by omega) (by omega)).mono fun _ _ H=>nJ h _ _ hq (wG _).1 (wG _).2 H
theorem yJ (k:Nat)(hk:k+1<8*l.length):Calls Tryz.prog 156 #[.slice (some ⟨g,0,none⟩) l.length cap,.int .i64 k] w (cD w g (e9 (e9 l k) (k+1))):=by
 have hm:=h.most;have H1:=hid (kC w g cap l h hL k (by omega));generalize hLn:l.length=L at*;go_in;go_wp2_with fail
 refine H1.out.mono ?_;rintro e w1 ⟨g1,kD,hg,rfl,T1,B1⟩;have H2:Hid (Calls Tryz.prog 155 #[.slice (some ⟨g1,0,none⟩) (e9 l k).length kD,.int .i64 ((k:Int)+1)] w1 (cD w1 g1 (e9 (e9 l k) (k+1)))):=kC w1 g1 kD _ T1 (by rw[jU];omega) (k+1) (by rw[jU];omega)
 generalize(e9 l k).length=L1 at*
 go_wp2_with fail
 refine H2.out.mono ?_;rintro e w2 ⟨g2,cap2,hg2,rfl,T2,B2⟩;go_wp2_with fail
 go_ret
 exact⟨g2,cap2,by omega,rfl,T2,B1.trans (B2.mono hg)⟩
theorem pE (k:Nat)(hk:k<l.length):Calls Tryz.prog 161 #[.slice (some ⟨g,0,none⟩) l.length cap,.int .i64 k] w (cD w g (mA l k)):=by
 have hm:=h.most;have H1:=hid (yH w g cap k l h hk);generalize hLn:l.length=L at*;go_in;go_wp2_with fail
 refine H1.out.mono ?_;rintro e w1 ⟨g1,kD,hg,rfl,T1,B1⟩;go_wp2_with fail
 go_ret
 exact⟨g1,kD,hg,rfl,T1,B1⟩
theorem yK (k:Nat)(hk:k<l.length):Calls Tryz.prog 162 #[.slice (some ⟨g,0,none⟩) l.length cap,.int .i64 k] w (cD w g (mW l k)):=by
 have hm:=h.most;have hc:=(h.at k hk).1;have hg:=h.lt;have hb:=h.wE.at k;have hle:=h.le;have H1:Hid (Calls Tryz.prog 189 #[.slice (some ⟨g,0,none⟩) l.length cap,.int .i64 k,.slice (some ⟨w.heap.size,0,none⟩) 1 1] (w.alloc (.cells #[.int .u8 (l.getD k 0)] 5)) (cD (w.alloc (.cells #[.int .u8 (l.getD k 0)] 5)) g (mW l k))):=
  qR _ g cap k w.heap.size l _ (h.alloc _) hL (by omega) ⟨Array.getElem?_push_size⟩ (by omega) hb.1 hb.2
 have h3:(k:Int)<(l.length:Int):=by omega
 generalize hLn:l.length=L at*;generalize l.getD k 0=x at*;go_in;go_wp2_with fail
 refine H1.out.mono ?_;rintro e w1 ⟨g1,kD,hg1,rfl,T1,B1⟩;go_wp2_with fail
 go_ret
 exact⟨g1,kD,hg1,rfl,T1,((Below.refl _ _).alloc (by omega) _).trans B1⟩
end
def aJ (L:Nat):Nat→Nat
 |0=>8*L
 |1=>8*L-1
 |2=>L
 |3=>4*L
 |4=>4*L
 |5=>5*L
 |6=>L
 |7=>if 24≤L then 0 else L
 |_=>0
def ey (l:List Int)(m:Nat):Nat→List Int
 |0=>e9 l m
 |1=>e9 (e9 l m) (m+1)
 |2=>l.set m (bits .xor .u8 (l.getD m 0) 255)
 |3=>l.set (m/4) ((l.getD (m/4) 0+(m%4+1:Nat))%256)
 |4=>l.set (m/4) ((l.getD (m/4) 0-(m%4+1:Nat))%256)
 |5=>l.set (m/5) (nD (m%5))
 |6=>mA l m
 |_=>mW l m
def fN (l:List Int):Nat→Nat→Nat→Option (List Int)
 |0,_,_=>none
 |d+1,j,m=>if m<aJ l.length j then some (ey l m j)else fN l d (j+1) (m-aJ l.length j)
theorem gC (l:List Int)(n:Nat):cL l n=fN l 8 0 n:=by
 have e:∀m:Nat,(m<l.length∧l.length<24)↔m<(if 24≤l.length then 0 else l.length):=fun m=>by split<;>omega
 simp only[cL,fN,aJ,ey,e]
def wI (f:Nat):Value:=.func (.func f) #[] #[]
def bO (L:Nat):Obj:=.cells #[.int .i64 (8*L:Nat),wI 155,.int .i64 (8*L-1:Nat),wI 156,.int .i64 (L:Nat),wI 157,.int .i64 (4*L:Nat),wI 158,.int .i64 (4*L:Nat),wI 159,.int .i64 (5*L:Nat),wI 160,.int .i64 (L:Nat),wI 161,.int .i64 ((if 24≤L then 0 else L:Nat):Int),wI 162] 185
theorem sZ (L:Nat)(hL:L≤24)(w:World):Calls Tryz.prog 116 #[.int .i64 L] w fun e w'=>e=.returned (.slice (some ⟨w.heap.size,0,none⟩) 8 8)∧w'=w.alloc (bO L):=by
 have h1:(8:Int)*(L:Int)=((8*L:Nat):Int):=by omega
 have hmax:max ((8:Int)*L-1) 0=((8*L-1:Nat):Int):=by omega
 by_cases h:24≤L
 ·obtain rfl:L=24:=by omega
  go_in;go_wp2;go_ret
  exact⟨rfl,rfl⟩
 ·have h':¬(24:Int)≤(L:Int):=by omega
  have e:(if 24≤L then 0 else L:Nat)=L:=if_neg h;unfold bO;rw[e];clear h1 h e;go_in;go_wp2;go_ret
  exact⟨rfl,rfl⟩
structure sO (R:ByteArray→Sh):Prop where
 kind:∀s:ByteArray,s.size≤24→(R s).kind=0∨(R s).kind=1∨(R s).kind=2
 aV:∀s:ByteArray,s.size≤24→∀p,jl ((R s).aV p)
def nE (x:Bool×ByteArray):Option ByteArray:=if x.1 then some x.2 else none
def nu (x:Bool×ByteArray):Option ByteArray:=if x.1 then none else some x.2
structure cE (R:ByteArray→Sh) (h:HS):Prop where
 most:h.kept.length≤30
 kept:∀i k,h.kept[i]?=some k→k.text.size≤24∧(R k.text).kind=0∧k.aV=(R k.text).aV∧jo (h.kept.take i) k.aV=true
 found:∀i c,h.found[i]?=some c→c.text.size≤24∧(R c.text).kind=1∧(R c.text).fault=c.fault∧(R c.text).place=c.place∧(h.found.take i).any (dV c.fault c.place)=false
 wz:h.az.filterMap nE=h.kept.map (·.text)
 wA:h.az.filterMap nu=h.found.map (·.text)
structure Alike (h h':HS):Prop where
 kept:h'.kept=h.kept
 found:h'.found=h.found
 az:h'.az=h.az
theorem Alike.refl (h:HS):Alike h h:=⟨rfl,rfl,rfl⟩
theorem Alike.trans {a b c:HS}(p:Alike a b)(q:Alike b c):Alike a c:=⟨q.kept.trans p.kept,q.found.trans p.found,q.az.trans p.az⟩
theorem Alike.symm {a b:HS}(p:Alike a b):Alike b a:=⟨p.kept.symm,p.found.symm,p.az.symm⟩
theorem gR (R:ByteArray→Sh)(h:HS)(s:ByteArray):
  (Alike h (aD R h s).1∧(aD R h s).2=0)∨
  ((R s).kind=1∧h.found.any (dV (R s).fault (R s).place)=false∧(aD R h s).1.kept=h.kept∧(aD R h s).1.found=h.found++[⟨s,(R s).fault,(R s).place⟩]∧(aD R h s).1.az=h.az++[(false,s)]∧(aD R h s).2=99)∨
  ((R s).kind≠1∧(R s).kind≠2∧h.kept.length<30∧jo h.kept (R s).aV=true∧(aD R h s).1.kept=h.kept++[⟨s,(R s).aV⟩]∧(aD R h s).1.found=h.found∧(aD R h s).1.az=h.az++[(true,s)]∧(aD R h s).2=113):=by
 unfold aD;by_cases h1:(R s).kind=1
 ·rw[if_pos h1];by_cases h2:h.found.any (dV (R s).fault (R s).place)=true
  ·rw[if_pos h2];exact Or.inl ⟨⟨rfl,rfl,rfl⟩,rfl⟩
  ·rw[if_neg h2];exact Or.inr (Or.inl ⟨h1,by simpa using h2,rfl,rfl,rfl,rfl⟩)
 ·rw[if_neg h1];by_cases h2:(R s).kind=2
  ·rw[if_pos h2];exact Or.inl ⟨⟨rfl,rfl,rfl⟩,rfl⟩
  ·rw[if_neg h2];by_cases h3:30≤h.kept.length∨jo h.kept (R s).aV=false
   ·rw[if_pos h3];exact Or.inl ⟨⟨rfl,rfl,rfl⟩,rfl⟩
   ·rw[if_neg h3];refine Or.inr (Or.inr ⟨h1,h2,by omega,?_,rfl,rfl,rfl,rfl⟩)
    cases hn:jo h.kept (R s).aV with
    |true=>rfl
    |false=>exact absurd (Or.inr hn) h3
theorem sP {R:ByteArray→Sh}{h h':HS}(p:Alike h h')(s:ByteArray):Alike (aD R h s).1 (aD R h' s).1∧(aD R h' s).2=(aD R h s).2:=by
 unfold aD;rw[p.kept,p.found];split
 ·split
  ·exact⟨⟨rfl,rfl,p.az⟩,rfl⟩
  ·exact⟨⟨rfl,rfl,by show h'.az++_=h.az++_;rw[p.az]⟩,rfl⟩
 ·split
  ·exact⟨⟨rfl,rfl,p.az⟩,rfl⟩
  ·split
   ·exact⟨⟨rfl,rfl,p.az⟩,rfl⟩
   ·exact⟨⟨rfl,rfl,by show h'.az++_=h.az++_;rw[p.az]⟩,rfl⟩
theorem lu {α:Type}(l:List α)(x:α)(i:Nat)(hi:i<l.length):(l++[x]).take i=l.take i:=by
 rw[List.take_append_of_le_length (by omega)]
theorem gA {α:Type}{l:List α}{x y:α}{i:Nat}(h:(l++[x])[i]?=some y):(i<l.length∧l[i]?=some y)∨(i=l.length∧y=x):=by
 by_cases hi:i<l.length
 ·rw[List.getElem?_append_left hi]at h;exact Or.inl ⟨hi,h⟩
 ·rw[List.getElem?_append_right (by omega)]at h
  have:i-l.length=0:=by
   have:=(List.getElem?_eq_some_iff.1 h).1
   simp at this;omega
  rw[this]at h;simp at h;exact Or.inr ⟨by omega,h.symm⟩
theorem cE.alike {R:ByteArray→Sh}{h h':HS}(p:cE R h)(a:Alike h h'):cE R h':=by
 cases h;cases h'
 obtain⟨rfl,rfl,rfl⟩:=a
 exact⟨p.most,p.kept,p.found,p.wz,p.wA⟩
theorem cE.tried {R:ByteArray→Sh}{h:HS}(p:cE R h)(hR:sO R)(s:ByteArray)(hs:s.size≤24):cE R (aD R h s).1:=by
 rcases gR R h s with⟨a,_⟩|⟨h1,h2,h3,h4,h5,_⟩|⟨h1,h2,h3,h4,h5,h6,h7,_⟩
 ·exact p.alike a
 ·refine⟨by rw[h3];exact p.most,by rw[h3];exact p.kept,?_,by rw[h3,h5,List.filterMap_append,p.wz];simp[nE],by rw[h4,h5,List.filterMap_append,p.wA];simp[nu]⟩
  rw[h4];intro i c hc;rcases gA hc with⟨hi,hc⟩|⟨rfl,rfl⟩
  ·rw[lu _ _ _ hi];exact p.found i c hc
  ·refine⟨hs,h1,rfl,rfl,?_⟩
   rw[List.take_append_of_le_length (Nat.le_refl _),List.take_length];exact h2
 ·refine⟨by rw[h5,List.length_append,List.length_singleton];omega,?_,by rw[h6];exact p.found,by rw[h5,h7,List.filterMap_append,p.wz];simp[nE],by rw[h6,h7,List.filterMap_append,p.wA];simp[nu]⟩
  rw[h5];intro i k hk;rcases gA hk with⟨hi,hk⟩|⟨rfl,rfl⟩
  ·rw[lu _ _ _ hi];exact p.kept i k hk
  ·refine⟨hs,?_,rfl,?_⟩
   ·rcases hR.kind s hs with e|e|e
    ·exact e
    ·exact absurd e h1
    ·exact absurd e h2
   ·rw[List.take_append_of_le_length (Nat.le_refl _),List.take_length];exact h4
theorem lS (R:ByteArray→Sh)(aa:Int):cE R (HS.zero aa):=⟨by simp[HS.zero],by simp[HS.zero],by simp[HS.zero],rfl,rfl⟩
theorem cE.tries {R:ByteArray→Sh}(hR:sO R):∀(l:List ByteArray) (h:HS),cE R h→(∀s∈l,s.size≤24)→cE R (bX R h l)
 |[],_,p,_=>p
 |s::l,h,p,hl=>cE.tries hR l _ (p.tried hR s (hl s (by simp))) (fun t ht=>hl t (by simp[ht]))
theorem Ed {l:List Int}(hl:l.length≤24)(n:Nat):((cL l n).getD []).length≤24:=by
 unfold cL;dsimp only;split
 ·simp[jU];exact hl
 split
 ·simp[jU];exact hl
 split
 ·simp;exact hl
 split
 ·simp;exact hl
 split
 ·simp;exact hl
 split
 ·simp;exact hl
 split
 ·simp[mA];omega
 split
 ·rename_i h;simp[mW];omega
 ·simp
theorem eZ (l:List Int):(strOfNums l).size=l.length:=by simp[strOfNums,ByteArray.size]
theorem HS.lT {R:ByteArray→Sh}{h:HS}(p:cE R h)(n:Nat):(h.text n).size≤24:=by
 unfold HS.text
 cases e:h.kept[n]? with
 |none=>simp;decide
 |some k=>exact (p.kept n k e).1
theorem fc {R:ByteArray→Sh}{h:HS}(p:cE R h):h.aK.size≤24:=by
 unfold HS.aK;split
 ·rw[eZ];exact Ed (by rw[af];exact h.lT p _) _
 ·rw[eZ];unfold HS.lq j8
  exact(oz (by rw[af];exact h.lT p _) (by rw[af];exact h.lT p _) _ _).1
theorem oD (R:ByteArray→Sh)(h:HS):Alike (aD R h h.aK).1 (h.one R):=by
 have q:Alike h {h with aa:=h.aG}:=⟨rfl,rfl,rfl⟩;have a:=(sP (R:=R) q h.aK).1;unfold HS.one;dsimp only;split
 ·exact⟨a.kept,a.found,a.az⟩
 ·exact⟨a.kept,a.found,a.az⟩
theorem cE.one {R:ByteArray→Sh}{h:HS}(p:cE R h)(hR:sO R):cE R (h.one R):=(p.tried hR _ (fc p)).alike (oD R h)
theorem cE.go {R:ByteArray→Sh}{h:HS}(p:cE R h)(hR:sO R):∀n,cE R (h.go R n)
 |0=>p
 |n+1=>(cE.go p hR n).one hR
def letter (b:Bool):Int:=if b then 113 else 99
def gJ (R:ByteArray→Sh)(h:HS):List (Bool×ByteArray)→Option HS
 |[]=>some h
 |x::l=>if (aD R h x.2).2=letter x.1 then gJ R (aD R h x.2).1 l else none
theorem nG (R:ByteArray→Sh)(l2:List (Bool×ByteArray)):∀(l1:List (Bool×ByteArray)) (h:HS),gJ R h (l1++l2)=(gJ R h l1).bind fun h1=>gJ R h1 l2
 |[],_=>rfl
 |x::l1,h=>by
  show(if _ then _ else _)=(if _ then _ else _:Option HS).bind _
  split
  ·exact nG R l2 l1 _
  ·rfl
theorem wB {R:ByteArray→Sh}{h:HS}{s:ByteArray}{b:Bool}(e:(aD R h s).2=letter b):(aD R h s).1.az=h.az++[(b,s)]:=by
 rcases gR R h s with⟨_,q⟩|⟨_,_,_,_,h5,q⟩|⟨_,_,_,_,_,_,h7,q⟩
 ·rw[q]at e;cases b<;>cases e
 ·rw[q]at e;cases b with
  |true=>cases e
  |false=>exact h5
 ·rw[q]at e;cases b with
  |true=>exact h7
  |false=>cases e
theorem sQ (R:ByteArray→Sh)(h:HS)(s:ByteArray):(∃t,(aD R h s).1.kept=h.kept++t)∧∃t,(aD R h s).1.found=h.found++t:=by
 rcases gR R h s with⟨a,_⟩|⟨_,_,h3,h4,_⟩|⟨_,_,_,_,h5,h6,_⟩
 ·exact⟨⟨[],by rw[a.kept,List.append_nil]⟩,⟨[],by rw[a.found,List.append_nil]⟩⟩
 ·exact⟨⟨[],by rw[h3,List.append_nil]⟩,⟨_,h4⟩⟩
 ·exact⟨⟨_,h5⟩,⟨[],by rw[h6,List.append_nil]⟩⟩
theorem qM (R:ByteArray→Sh):∀(l:List (Bool×ByteArray)) (h h':HS),gJ R h l=some h'→h'.az=h.az++l∧(∃t,h'.kept=h.kept++t)∧∃t,h'.found=h.found++t
 |[],h,h',e=>by cases e;exact⟨by simp,⟨[],by simp⟩,⟨[],by simp⟩⟩
 |x::l,h,h',e=>by
  unfold gJ at e;split at e
  ·rename_i hl
   obtain⟨e1,⟨t,e2⟩,⟨u,e3⟩⟩:=qM R l _ h' e
   obtain⟨⟨t',g2⟩,⟨u',g3⟩⟩:=sQ R h x.2
   refine⟨by rw[e1,wB hl];simp,⟨t'++t,by rw[e2,g2];simp⟩,⟨u'++u,by rw[e3,g3];simp⟩⟩
  ·cases e
theorem cE.iI {R:ByteArray→Sh}(hR:sO R):∀(l:List (Bool×ByteArray)) (h h':HS),cE R h→(∀x∈l,x.2.size≤24)→gJ R h l=some h'→cE R h'
 |[],_,_,p,_,e=>by cases e;exact p
 |x::l,h,h',p,hl,e=>by
  unfold gJ at e;split at e
  ·exact cE.iI hR l _ h' (p.tried hR x.2 (hl x (by simp))) (fun y hy=>hl y (by simp[hy])) e
  ·cases e
def cJ (R:ByteArray→Sh)(h:HS):Prop:=∀aa,∃h',gJ R (HS.zero aa) h.az=some h'∧Alike h' h
theorem cJ.alike {R:ByteArray→Sh}{h h':HS}(p:cJ R h)(a:Alike h h'):cJ R h':=fun aa=>by
 obtain⟨g,e,q⟩:=p aa
 exact⟨g,by rw[a.az];exact e,q.trans a⟩
theorem cJ.told {R:ByteArray→Sh}{h:HS}(p:cJ R h){s:ByteArray}{b:Bool}(e:(aD R h s).2=letter b):cJ R (aD R h s).1:=fun aa=>by
 obtain⟨g,eg,q⟩:=p aa
 have t:=sP (R:=R) q s
 refine⟨(aD R g s).1,?_,t.1⟩
 rw[wB e,nG,eg]
 show(if _ then _ else _)=_
 rw[if_pos (by rw[←t.2];exact e)];rfl
theorem cJ.tried {R:ByteArray→Sh}{h:HS}(p:cJ R h)(s:ByteArray):cJ R (aD R h s).1:=by
 rcases gR R h s with⟨a,_⟩|⟨_,_,_,_,_,q⟩|⟨_,_,_,_,_,_,_,q⟩
 ·exact p.alike a
 ·exact p.told (b:=false) q
 ·exact p.told (b:=true) q
theorem cJ.tries {R:ByteArray→Sh}:∀(l:List ByteArray) (h:HS),cJ R h→cJ R (bX R h l)
 |[],_,p=>p
 |s::l,_,p=>cJ.tries l _ (p.tried s)
theorem cJ.one {R:ByteArray→Sh}{h:HS}(p:cJ R h):cJ R (h.one R):=(p.tried _).alike (oD R h)
theorem cJ.go {R:ByteArray→Sh}{h:HS}(p:cJ R h):∀n,cJ R (h.go R n)
 |0=>p
 |n+1=>(cJ.go p n).one
theorem dG (R:ByteArray→Sh)(h:HS)(s:ByteArray):h.kept.length≤(aD R h s).1.kept.length:=by
 rcases gR R h s with⟨a,_⟩|⟨_,_,h3,_⟩|⟨_,_,_,_,h5,_⟩
 ·rw[a.kept];exact Nat.le_refl _
 ·rw[h3];exact Nat.le_refl _
 ·rw[h5,List.length_append];omega
theorem qN (R:ByteArray→Sh)(h:HS):h.kept.length≤(h.one R).kept.length:=by
 rw[(oD R h).kept];exact dG R h _
structure SK (B h fo:Nat) (w w':World):Prop where
 os:w'.os=w.os
 tape:w'.tape=w.tape
 output:w'.output=w.output
 size:w.heap.size≤w'.heap.size
 block:∀k,k<B→k≠h→w'.heap[k]?=w.heap[k]?
 cell:∀j,j≠fo→w'.cell? ⟨h,j,none⟩=w.cell? ⟨h,j,none⟩
 iy:∀j,w'.frozen? ⟨h,j,none⟩=w.frozen? ⟨h,j,none⟩
theorem SK.refl (B h fo:Nat)(w:World):SK B h fo w w:=⟨rfl,rfl,rfl,Nat.le_refl _,fun _ _ _=>rfl,fun _ _=>rfl,fun _=>rfl⟩
theorem SK.trans {B h fo:Nat}{a b c:World}(p:SK B h fo a b)(q:SK B h fo b c):SK B h fo a c:=
 ⟨q.os.trans p.os,q.tape.trans p.tape,q.output.trans p.output,Nat.le_trans p.size q.size,fun k h1 h2=>(q.block k h1 h2).trans (p.block k h1 h2),fun j hj=>(q.cell j hj).trans (p.cell j hj),fun j=>(q.iy j).trans (p.iy j)⟩
theorem SK.dZ {B h fo D:Nat}{w w':World}(b:Below D w w')(hB:B≤D)(hh:h<B):SK B h fo w w':=
 ⟨b.os,b.tape,b.output,b.size,fun k hk _=>b.block k (by omega),fun j _=>World.cell?_of_block (w:=w) (a:=⟨h,j,none⟩) (b.block h (by omega)),fun j=>World.frozen?_of_block (w:=w) (a:=⟨h,j,none⟩) (b.block h (by omega))⟩
theorem SK.put {B h fo g:Nat}{w w':World}(p:SK B h fo w w')(hg:B≤g)(hh:h<B)(a:Nat)(v:Value):SK B h fo w (w'.setCell ⟨g,a,none⟩ v):=
 p.trans (SK.dZ (D:=B) ((Below.refl B w').setCell (p:=⟨g,a,none⟩) hg _) (Nat.le_refl _) hh)
theorem SK.self (B h fo:Nat)(w:World)(v:Value):SK B h fo w (w.setCell ⟨h,fo,none⟩ v):=
 ⟨rfl,rfl,rfl,by simp,fun k _ hk=>heap_setCell_other w ⟨h,fo,none⟩ k v hk,fun j hj=>World.cell?_setCell_other _ _ _ _ (fun c=>hj (by injection c with _ c2 _;exact c2.symm)),fun j=>by rw[World.frozen?_setCell]⟩
theorem SK.below {B h fo:Nat}{w w':World}(p:SK B h fo w w')(hB:h≤B):Below h w w':=⟨p.os,p.tape,p.output,p.size,fun k hk=>p.block k (by omega) (by omega)⟩
structure Sd (w:World) (h fo:Nat) (x:Int):Prop where
 cell:w.cell? ⟨h,fo,none⟩=some (.int .u64 x)
 iy:w.frozen? ⟨h,fo,none⟩=false
 lo:0≤x
 hi:x≤18446744073709551615
theorem Sd.lt {w:World}{h fo:Nat}{x:Int}(s:Sd w h fo x):h<w.heap.size:=World.block_lt_of_cell? w ⟨h,fo,none⟩ s.cell
theorem Sd.of_block {w w':World}{h fo:Nat}{x:Int}(s:Sd w h fo x)(hb:w'.heap[h]?=w.heap[h]?):Sd w' h fo x:=
 ⟨(World.cell?_of_block (w:=w) hb).trans s.cell,(World.frozen?_of_block (w:=w) (w':=w') (a:=⟨h,fo,none⟩) hb).trans s.iy,s.lo,s.hi⟩
theorem Sd.below {w w':World}{h fo B:Nat}{x:Int}(s:Sd w h fo x)(b:Below B w w')(hB:h<B):Sd w' h fo x:=s.of_block (b.block h hB)
theorem Eh (op:BinOp)(x y:Int):0≤bits op .u64 x y∧bits op .u64 x y≤18446744073709551615:=by
 have:=wf_bits op .u64 x y
 simp[Lit.wf,IntKind.min,IntKind.max,IntKind.signed,IntKind.bits]at this;omega
theorem iA (x:Int):0≤sd x∧sd x≤18446744073709551615:=by
 unfold sd qL;exact Eh _ _ _
theorem Sd.set {w:World}{h fo:Nat}{x:Int}(s:Sd w h fo x)(y:Int)(h0:0≤y)(h1:y≤18446744073709551615):Sd (w.setCell ⟨h,fo,none⟩ (.int .u64 y)) h fo y:=
 ⟨World.cell?_setCell_same w _ _ s.cell,by rw[World.frozen?_setCell];exact s.iy,h0,h1⟩
theorem Ei (w:World)(h fo:Nat)(x:Int)(s:Sd w h fo x):
  Calls Tryz.prog 163 #[.pointer (some ⟨h,fo,none⟩)] w fun e w'=>e=.returned (.int .u64 (IntKind.u64.wrap (sd x*2685821657736338717)/8589934592))∧w'=w.setCell ⟨h,fo,none⟩ (.int .u64 (sd x)):=by
 have hc:=s.cell;have hf:=s.iy;have hlt:=s.lt;by_cases h0:x=0
 ·subst h0;go_in;go_wp2;go_ret
  exact⟨rfl,rfl⟩
 ·have e:sd x=qL x:=by unfold sd;rw[if_neg h0]
  rw[e];have hlo:=s.lo;have hhi:=s.hi;go_in;go_wp2;go_ret
  exact⟨rfl,rfl⟩
theorem sX (w:World)(h fo:Nat)(x:Int)(s:Sd w h fo x)(n:Nat)(h1:1≤n)(h2:n≤1000):
  Calls Tryz.prog 117 #[.pointer (some ⟨h,fo,none⟩),.int .i64 n] w fun e w'=>e=.returned (.int .i64 (dr x n:Nat))∧w'=w.setCell ⟨h,fo,none⟩ (.int .u64 (sd x)):=by
 have HD:Hid (Calls Tryz.prog 163 #[.pointer (some ⟨h,fo,none⟩)] w fun e w'=>e=.returned (.int .u64 (IntKind.u64.wrap (sd x*2685821657736338717)/8589934592))∧w'=w.setCell ⟨h,fo,none⟩ (.int .u64 (sd x))):=Ei w h fo x s;have hb:0≤IntKind.u64.wrap (sd x*2685821657736338717)∧IntKind.u64.wrap (sd x*2685821657736338717)≤18446744073709551615:=by
  rw[IntKind.wrap_u64];omega
 unfold dr;generalize IntKind.u64.wrap (sd x*2685821657736338717)=P at*;have hD0:0≤P/8589934592:=by omega
 have hD1:P/8589934592≤2147483648:=by omega
 generalize P/8589934592=D at*;have hm0:0≤D%(n:Int):=Int.emod_nonneg _ (by omega);have hm1:D%(n:Int)<(n:Int):=Int.emod_lt_of_pos _ (by omega);have hne:¬((n:Int)=0):=by omega
 have hn0:(0:Int)≤(n:Int):=by omega
 have he:D%(n:Int)=((D.toNat%n:Nat):Int):=by
  have:((D.toNat%n:Nat):Int)=(D.toNat:Int)%(n:Int):=by simp
  rw[this,Int.toNat_of_nonneg hD0]
 rw[←he];clear he;generalize hN:(n:Int)=N at*;go_in;go_wp2_with fail
 refine HD.out.mono ?_;rintro e w1 ⟨rfl,hw1⟩;subst hw1;go_wp2_with fail
 go_ret
 exact⟨rfl,rfl⟩

end Go.Proofs.YtmpgjkhchfcjlaaGreatDoor
