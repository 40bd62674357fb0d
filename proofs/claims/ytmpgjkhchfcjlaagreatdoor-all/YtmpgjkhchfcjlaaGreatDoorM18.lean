import Derived.Test.YtmpgjkhchfcjlaaGreatDoorM16
import Derived.Laws.EntriesVeiled
namespace Go.Proofs.YtmpgjkhchfcjlaaGreatDoor
open Go.RowKit
set_option maxRecDepth 100000
set_option maxHeartbeats 8000000
def fq (w:World)(o:Option (List Int))(e:Ending)(w':World):Prop:=
 Below w.heap.size w w'∧e=.returned (.tuple #[.string ((o.map strOfNums).getD ⟨#[]⟩),.bool o.isSome])
theorem kT.below {w w':World}{B:Nat}(h:kT w)(b:Below B w w')(hB:1<B):kT w':=fun k hk=>(b.cell (p:=⟨1,k,none⟩) hB).trans (h k hk)
theorem jx (W:World)(s:ByteArray)(hs:s.size≤1000):eM (Lib.bytesWorld W 5 s) W.heap.size (grownCap W s.size 0 5) (nums s)∧Below W.heap.size W (Lib.bytesWorld W 5 s):=by
 obtain⟨w',cap,h,T,B,_⟩:=Ar W s hs
 rw[Lib.run_convert_string_bytes W 9 39 5 s Tryz.underlying9 Tryz.underlying39 Tryz.underlying5]at h;simp only[Result.ok.injEq,Value.slice.injEq,true_and]at h
 obtain⟨rfl,rfl⟩:=h
 exact⟨T,B⟩
theorem aQ (l:List Int)(d j m L:Nat)(hL:l.length=L)(h:¬m<aJ L j):fN l (d+1) j m=fN l d (j+1) (m-aJ L j):=by
 subst hL;exact if_neg h
theorem pH (s:ByteArray)(hs:s.size≤24)(n:Nat)(hn:n≤9223372036854775807)(w:World)(hM:kT w):
  Calls Tryz.prog 69 #[.string s,.int .i64 n] w (fq w (cL (nums s) n)):=by
 have hz:=World.block_lt_of_cell? w ⟨1,0,none⟩ (hM 0 (by omega));have HM:=hid hM;have hn24:(nums s).length≤1000:=by rw[af];omega
 have H0:Hid (fN (nums s) 8 0 n=cL (nums s) n):=(gC _ _).symm;have hconv:∀W,(convert 9 39 (.string s)).run Tryz.prog W=.ok (.slice (some ⟨W.heap.size,0,none⟩) s.size (grownCap W s.size 0 5)) (Lib.bytesWorld W 5 s):=fun W=>Lib.run_convert_string_bytes W 9 39 5 s Tryz.underlying9 Tryz.underlying39 Tryz.underlying5
 generalize hL:s.size=L at*;clear hM;go_in;go_wp2_with fail
 refine(sZ L hs w).mono ?_
 rintro e w1 ⟨rfl,hw1⟩;have HB1:Hid (Below w.heap.size w w1):=by rw[hw1];exact(Below.refl _ _).alloc (Nat.le_refl _) _
 have hsz:w1.heap.size=w.heap.size+1:=by rw[hw1];simp
 have a0:w1.cell? ⟨w.heap.size,0,none⟩=some (.int .i64 ((8*L:Nat):Int)):=by rw[hw1,bO,World.cell?_alloc_new];rfl
 have b0:w1.cell? ⟨w.heap.size,1,none⟩=some (.func (.func 155) #[] #[]):=by rw[hw1,bO,World.cell?_alloc_new];rfl
 have a1:w1.cell? ⟨w.heap.size,2,none⟩=some (.int .i64 ((8*L-1:Nat):Int)):=by rw[hw1,bO,World.cell?_alloc_new];rfl
 have b1:w1.cell? ⟨w.heap.size,3,none⟩=some (.func (.func 156) #[] #[]):=by rw[hw1,bO,World.cell?_alloc_new];rfl
 have a2:w1.cell? ⟨w.heap.size,4,none⟩=some (.int .i64 ((L:Nat):Int)):=by rw[hw1,bO,World.cell?_alloc_new];rfl
 have b2:w1.cell? ⟨w.heap.size,5,none⟩=some (.func (.func 157) #[] #[]):=by rw[hw1,bO,World.cell?_alloc_new];rfl
 have a3:w1.cell? ⟨w.heap.size,6,none⟩=some (.int .i64 ((4*L:Nat):Int)):=by rw[hw1,bO,World.cell?_alloc_new];rfl
 have b3:w1.cell? ⟨w.heap.size,7,none⟩=some (.func (.func 158) #[] #[]):=by rw[hw1,bO,World.cell?_alloc_new];rfl
 have a4:w1.cell? ⟨w.heap.size,8,none⟩=some (.int .i64 ((4*L:Nat):Int)):=by rw[hw1,bO,World.cell?_alloc_new];rfl
 have b4:w1.cell? ⟨w.heap.size,9,none⟩=some (.func (.func 159) #[] #[]):=by rw[hw1,bO,World.cell?_alloc_new];rfl
 have a5:w1.cell? ⟨w.heap.size,10,none⟩=some (.int .i64 ((5*L:Nat):Int)):=by rw[hw1,bO,World.cell?_alloc_new];rfl
 have b5:w1.cell? ⟨w.heap.size,11,none⟩=some (.func (.func 160) #[] #[]):=by rw[hw1,bO,World.cell?_alloc_new];rfl
 have a6:w1.cell? ⟨w.heap.size,12,none⟩=some (.int .i64 ((L:Nat):Int)):=by rw[hw1,bO,World.cell?_alloc_new];rfl
 have b6:w1.cell? ⟨w.heap.size,13,none⟩=some (.func (.func 161) #[] #[]):=by rw[hw1,bO,World.cell?_alloc_new];rfl
 have a7:w1.cell? ⟨w.heap.size,14,none⟩=some (.int .i64 ((if 24≤L then 0 else L:Nat):Int)):=by rw[hw1,bO,World.cell?_alloc_new];rfl
 have b7:w1.cell? ⟨w.heap.size,15,none⟩=some (.func (.func 162) #[] #[]):=by rw[hw1,bO,World.cell?_alloc_new];rfl
 have HA:Hid (∀wr,Below (w.heap.size+1) w1 wr→∀k,k<16→wr.cell? ⟨w.heap.size,k,none⟩=w1.cell? ⟨w.heap.size,k,none⟩):=fun wr hb k _=>hb.cell (p:=⟨w.heap.size,k,none⟩) (Nat.lt_succ_self _)
 clear hw1;go_wp2_with fail
 go_loopw [1,14] (fun x i wr=>∃j m:Nat,j≤8∧m≤n∧x=.int .i64 m∧i=.int .i64 j∧fN (nums s) (8-j) j m=cL (nums s) n∧Below (w.heap.size+1) w1 wr) (fun _ i _=>8-(intOf i).toNat)
 case atStart=>exact ⟨0,n,by omega,Nat.le_refl _,rfl,rfl,H0.out,Below.refl _ _⟩
 case round=>
  obtain⟨j,m,hj,hmn,rfl,rfl,htry,hB⟩:=hrel
  have hszr:w.heap.size+1≤wr.heap.size:=by have:=hB.size;omega
  have HBr:=hid hB;have HT:=hid htry;clear htry;match j,hj with
  |0,_=>
   have a:=(HA.out wr hB 0 (by omega)).trans a0;have b:=(HA.out wr hB 1 (by omega)).trans b0;clear hB a0 b0 a1 b1 a2 b2 a3 b3 a4 b4 a5 b5 a6 b6 a7 b7 HA;by_cases hlt:m<(8*L)
   ·have hlt':(m:Int)<((8*L:Nat):Int):=(by omega);have HANS:Hid (cL (nums s) n=some (ey (nums s) m 0)):=by
     rw[←HT.out,show 8-0=7+1 from rfl,fN,af,hL];exact if_pos hlt
    generalize hmany:((8*L:Nat):Int)=MM at*;go_wp2_with fail
    obtain⟨T0,B0⟩:=jx (wr.alloc (.cells #[.int .i64 MM,.func (.func 155) #[] #[]] 185)) s (by omega)
    rw[World.size_alloc,hL]at T0;have B0m:=B0.mono (B':=wr.heap.size) (by simp);have B0n:Below wr.heap.size wr (Lib.bytesWorld (wr.alloc (.cells #[.int .i64 MM,.func (.func 155) #[] #[]] 185)) 5 s):=((Below.refl _ _).alloc (Nat.le_refl _) _).trans B0m;clear B0 B0m;generalize Lib.bytesWorld (wr.alloc (.cells #[.int .i64 MM,.func (.func 155) #[] #[]] 185)) 5 s=w3 at T0 B0n⊢;generalize grownCap (wr.alloc (.cells #[.int .i64 MM,.func (.func 155) #[] #[]] 185)) L 0 5=G3 at T0⊢;have eL:(nums s).length=L:=(by rw[af,hL]);have HCC:Calls Tryz.prog 155 #[.slice (some ⟨wr.heap.size+1,0,none⟩) (nums s).length G3,.int .i64 m] w3 (cD w3 (wr.heap.size+1) (ey (nums s) m 0)):=kC _ _ _ _ T0 hn24 m (by rw[eL];exact hlt);rw[eL]at HCC;generalize ey (nums s) m 0=lx at HCC HANS;refine HCC.mono ?_;rintro e w2 ⟨g2,cap2,hg2,rfl,T2,B2⟩;have cv:=fF T2;generalize lx.length=L2 at cv⊢;have HB2:Hid (Below w.heap.size w w2):=(HB1.out.trans (HBr.out.mono (by omega))).trans ((B0n.mono (by omega)).trans (B2.mono (by omega)));clear T0 B0n HCC B2 T2;go_wp2_with fail
    go_ret2
    refine⟨HB2.out,?_⟩
    rw[HANS.out];rfl
   ·have hlt':¬(m:Int)<((8*L:Nat):Int):=(by omega);have HN:Hid (fN (nums s) (8-(0+1)) (0+1) (m-(8*L))=cL (nums s) n):=by
     have ht:=HT.out;rw[show 8-0=7+1 from rfl,aQ _ _ _ _ L (by rw[af,hL]) hlt]at ht;exact ht
    have hsub:(m:Int)-((8*L:Nat):Int)=((m-(8*L):Nat):Int):=(by omega);have hsub0:(0:Int)≤((m-(8*L):Nat):Int):=(by omega);have hle:m-(8*L)≤n:=(by omega);generalize hrest:m-(8*L)=M1 at*;generalize hmany:((8*L:Nat):Int)=MM at*;go_wp2_with fail
    go_roundw
    case rel=>exact ⟨0+1,M1,by omega,hle,by first|rfl|rw[hsub],rfl,HN.out,HBr.out.alloc (by omega) _⟩
    case measure=>simp [intOf]
  |1,_=>
   have a:=(HA.out wr hB 2 (by omega)).trans a1;have b:=(HA.out wr hB 3 (by omega)).trans b1;clear hB a0 b0 a1 b1 a2 b2 a3 b3 a4 b4 a5 b5 a6 b6 a7 b7 HA;by_cases hlt:m<(8*L-1)
   ·have hlt':(m:Int)<((8*L-1:Nat):Int):=(by omega);have HANS:Hid (cL (nums s) n=some (ey (nums s) m 1)):=by
     rw[←HT.out,show 8-1=6+1 from rfl,fN,af,hL];exact if_pos hlt
    generalize hmany:((8*L-1:Nat):Int)=MM at*;go_wp2_with fail
    obtain⟨T0,B0⟩:=jx (wr.alloc (.cells #[.int .i64 MM,.func (.func 156) #[] #[]] 185)) s (by omega)
    rw[World.size_alloc,hL]at T0;have B0m:=B0.mono (B':=wr.heap.size) (by simp);have B0n:Below wr.heap.size wr (Lib.bytesWorld (wr.alloc (.cells #[.int .i64 MM,.func (.func 156) #[] #[]] 185)) 5 s):=((Below.refl _ _).alloc (Nat.le_refl _) _).trans B0m;clear B0 B0m;generalize Lib.bytesWorld (wr.alloc (.cells #[.int .i64 MM,.func (.func 156) #[] #[]] 185)) 5 s=w3 at T0 B0n⊢;generalize grownCap (wr.alloc (.cells #[.int .i64 MM,.func (.func 156) #[] #[]] 185)) L 0 5=G3 at T0⊢;have eL:(nums s).length=L:=(by rw[af,hL]);have HCC:Calls Tryz.prog 156 #[.slice (some ⟨wr.heap.size+1,0,none⟩) (nums s).length G3,.int .i64 m] w3 (cD w3 (wr.heap.size+1) (ey (nums s) m 1)):=yJ _ _ _ _ T0 hn24 m (by rw[eL];omega);rw[eL]at HCC;generalize ey (nums s) m 1=lx at HCC HANS;refine HCC.mono ?_;rintro e w2 ⟨g2,cap2,hg2,rfl,T2,B2⟩;have cv:=fF T2;generalize lx.length=L2 at cv⊢;have HB2:Hid (Below w.heap.size w w2):=(HB1.out.trans (HBr.out.mono (by omega))).trans ((B0n.mono (by omega)).trans (B2.mono (by omega)));clear T0 B0n HCC B2 T2;go_wp2_with fail
    go_ret2
    refine⟨HB2.out,?_⟩
    rw[HANS.out];rfl
   ·have hlt':¬(m:Int)<((8*L-1:Nat):Int):=(by omega);have HN:Hid (fN (nums s) (8-(1+1)) (1+1) (m-(8*L-1))=cL (nums s) n):=by
     have ht:=HT.out;rw[show 8-1=6+1 from rfl,aQ _ _ _ _ L (by rw[af,hL]) hlt]at ht;exact ht
    have hsub:(m:Int)-((8*L-1:Nat):Int)=((m-(8*L-1):Nat):Int):=(by omega);have hsub0:(0:Int)≤((m-(8*L-1):Nat):Int):=(by omega);have hle:m-(8*L-1)≤n:=(by omega);generalize hrest:m-(8*L-1)=M1 at*;generalize hmany:((8*L-1:Nat):Int)=MM at*;go_wp2_with fail
    go_roundw
    case rel=>exact ⟨1+1,M1,by omega,hle,by first|rfl|rw[hsub],rfl,HN.out,HBr.out.alloc (by omega) _⟩
    case measure=>simp [intOf]
  |2,_=>
   have a:=(HA.out wr hB 4 (by omega)).trans a2;have b:=(HA.out wr hB 5 (by omega)).trans b2;clear hB a0 b0 a1 b1 a2 b2 a3 b3 a4 b4 a5 b5 a6 b6 a7 b7 HA;by_cases hlt:m<(L)
   ·have hlt':(m:Int)<((L:Nat):Int):=(by omega);have HANS:Hid (cL (nums s) n=some (ey (nums s) m 2)):=by
     rw[←HT.out,show 8-2=5+1 from rfl,fN,af,hL];exact if_pos hlt
    generalize hmany:((L:Nat):Int)=MM at*;go_wp2_with fail
    obtain⟨T0,B0⟩:=jx (wr.alloc (.cells #[.int .i64 MM,.func (.func 157) #[] #[]] 185)) s (by omega)
    rw[World.size_alloc,hL]at T0;have B0m:=B0.mono (B':=wr.heap.size) (by simp);have B0n:Below wr.heap.size wr (Lib.bytesWorld (wr.alloc (.cells #[.int .i64 MM,.func (.func 157) #[] #[]] 185)) 5 s):=((Below.refl _ _).alloc (Nat.le_refl _) _).trans B0m;clear B0 B0m;generalize Lib.bytesWorld (wr.alloc (.cells #[.int .i64 MM,.func (.func 157) #[] #[]] 185)) 5 s=w3 at T0 B0n⊢;generalize grownCap (wr.alloc (.cells #[.int .i64 MM,.func (.func 157) #[] #[]] 185)) L 0 5=G3 at T0⊢;have eL:(nums s).length=L:=(by rw[af,hL]);have HCC:Calls Tryz.prog 157 #[.slice (some ⟨wr.heap.size+1,0,none⟩) (nums s).length G3,.int .i64 m] w3 (cD w3 (wr.heap.size+1) (ey (nums s) m 2)):=wH _ _ _ _ T0 m (by rw[eL];exact hlt);rw[eL]at HCC;generalize ey (nums s) m 2=lx at HCC HANS;refine HCC.mono ?_;rintro e w2 ⟨g2,cap2,hg2,rfl,T2,B2⟩;have cv:=fF T2;generalize lx.length=L2 at cv⊢;have HB2:Hid (Below w.heap.size w w2):=(HB1.out.trans (HBr.out.mono (by omega))).trans ((B0n.mono (by omega)).trans (B2.mono (by omega)));clear T0 B0n HCC B2 T2;go_wp2_with fail
    go_ret2
    refine⟨HB2.out,?_⟩
    rw[HANS.out];rfl
   ·have hlt':¬(m:Int)<((L:Nat):Int):=(by omega);have HN:Hid (fN (nums s) (8-(2+1)) (2+1) (m-(L))=cL (nums s) n):=by
     have ht:=HT.out;rw[show 8-2=5+1 from rfl,aQ _ _ _ _ L (by rw[af,hL]) hlt]at ht;exact ht
    have hsub:(m:Int)-((L:Nat):Int)=((m-(L):Nat):Int):=(by omega);have hsub0:(0:Int)≤((m-(L):Nat):Int):=(by omega);have hle:m-(L)≤n:=(by omega);generalize hrest:m-(L)=M1 at*;generalize hmany:((L:Nat):Int)=MM at*;go_wp2_with fail
    go_roundw
    case rel=>exact ⟨2+1,M1,by omega,hle,by first|rfl|rw[hsub],rfl,HN.out,HBr.out.alloc (by omega) _⟩
    case measure=>simp [intOf]
  |3,_=>
   have a:=(HA.out wr hB 6 (by omega)).trans a3;have b:=(HA.out wr hB 7 (by omega)).trans b3;clear hB a0 b0 a1 b1 a2 b2 a3 b3 a4 b4 a5 b5 a6 b6 a7 b7 HA;by_cases hlt:m<(4*L)
   ·have hlt':(m:Int)<((4*L:Nat):Int):=(by omega);have HANS:Hid (cL (nums s) n=some (ey (nums s) m 3)):=by
     rw[←HT.out,show 8-3=4+1 from rfl,fN,af,hL];exact if_pos hlt
    generalize hmany:((4*L:Nat):Int)=MM at*;go_wp2_with fail
    obtain⟨T0,B0⟩:=jx (wr.alloc (.cells #[.int .i64 MM,.func (.func 158) #[] #[]] 185)) s (by omega)
    rw[World.size_alloc,hL]at T0;have B0m:=B0.mono (B':=wr.heap.size) (by simp);have B0n:Below wr.heap.size wr (Lib.bytesWorld (wr.alloc (.cells #[.int .i64 MM,.func (.func 158) #[] #[]] 185)) 5 s):=((Below.refl _ _).alloc (Nat.le_refl _) _).trans B0m;clear B0 B0m;generalize Lib.bytesWorld (wr.alloc (.cells #[.int .i64 MM,.func (.func 158) #[] #[]] 185)) 5 s=w3 at T0 B0n⊢;generalize grownCap (wr.alloc (.cells #[.int .i64 MM,.func (.func 158) #[] #[]] 185)) L 0 5=G3 at T0⊢;have eL:(nums s).length=L:=(by rw[af,hL]);have HCC:Calls Tryz.prog 158 #[.slice (some ⟨wr.heap.size+1,0,none⟩) (nums s).length G3,.int .i64 m] w3 (cD w3 (wr.heap.size+1) (ey (nums s) m 3)):=C7 _ _ _ _ T0 hn24 m (by rw[eL];exact hlt);rw[eL]at HCC;generalize ey (nums s) m 3=lx at HCC HANS;refine HCC.mono ?_;rintro e w2 ⟨g2,cap2,hg2,rfl,T2,B2⟩;have cv:=fF T2;generalize lx.length=L2 at cv⊢;have HB2:Hid (Below w.heap.size w w2):=(HB1.out.trans (HBr.out.mono (by omega))).trans ((B0n.mono (by omega)).trans (B2.mono (by omega)));clear T0 B0n HCC B2 T2;go_wp2_with fail
    go_ret2
    refine⟨HB2.out,?_⟩
    rw[HANS.out];rfl
   ·have hlt':¬(m:Int)<((4*L:Nat):Int):=(by omega);have HN:Hid (fN (nums s) (8-(3+1)) (3+1) (m-(4*L))=cL (nums s) n):=by
     have ht:=HT.out;rw[show 8-3=4+1 from rfl,aQ _ _ _ _ L (by rw[af,hL]) hlt]at ht;exact ht
    have hsub:(m:Int)-((4*L:Nat):Int)=((m-(4*L):Nat):Int):=(by omega);have hsub0:(0:Int)≤((m-(4*L):Nat):Int):=(by omega);have hle:m-(4*L)≤n:=(by omega);generalize hrest:m-(4*L)=M1 at*;generalize hmany:((4*L:Nat):Int)=MM at*;go_wp2_with fail
    go_roundw
    case rel=>exact ⟨3+1,M1,by omega,hle,by first|rfl|rw[hsub],rfl,HN.out,HBr.out.alloc (by omega) _⟩
    case measure=>simp [intOf]
  |4,_=>
   have a:=(HA.out wr hB 8 (by omega)).trans a4;have b:=(HA.out wr hB 9 (by omega)).trans b4;clear hB a0 b0 a1 b1 a2 b2 a3 b3 a4 b4 a5 b5 a6 b6 a7 b7 HA;by_cases hlt:m<(4*L)
   ·have hlt':(m:Int)<((4*L:Nat):Int):=(by omega);have HANS:Hid (cL (nums s) n=some (ey (nums s) m 4)):=by
     rw[←HT.out,show 8-4=3+1 from rfl,fN,af,hL];exact if_pos hlt
    generalize hmany:((4*L:Nat):Int)=MM at*;go_wp2_with fail
    obtain⟨T0,B0⟩:=jx (wr.alloc (.cells #[.int .i64 MM,.func (.func 159) #[] #[]] 185)) s (by omega)
    rw[World.size_alloc,hL]at T0;have B0m:=B0.mono (B':=wr.heap.size) (by simp);have B0n:Below wr.heap.size wr (Lib.bytesWorld (wr.alloc (.cells #[.int .i64 MM,.func (.func 159) #[] #[]] 185)) 5 s):=((Below.refl _ _).alloc (Nat.le_refl _) _).trans B0m;clear B0 B0m;generalize Lib.bytesWorld (wr.alloc (.cells #[.int .i64 MM,.func (.func 159) #[] #[]] 185)) 5 s=w3 at T0 B0n⊢;generalize grownCap (wr.alloc (.cells #[.int .i64 MM,.func (.func 159) #[] #[]] 185)) L 0 5=G3 at T0⊢;have eL:(nums s).length=L:=(by rw[af,hL]);have HCC:Calls Tryz.prog 159 #[.slice (some ⟨wr.heap.size+1,0,none⟩) (nums s).length G3,.int .i64 m] w3 (cD w3 (wr.heap.size+1) (ey (nums s) m 4)):=C8 _ _ _ _ T0 hn24 m (by rw[eL];exact hlt);rw[eL]at HCC;generalize ey (nums s) m 4=lx at HCC HANS;refine HCC.mono ?_;rintro e w2 ⟨g2,cap2,hg2,rfl,T2,B2⟩;have cv:=fF T2;generalize lx.length=L2 at cv⊢;have HB2:Hid (Below w.heap.size w w2):=(HB1.out.trans (HBr.out.mono (by omega))).trans ((B0n.mono (by omega)).trans (B2.mono (by omega)));clear T0 B0n HCC B2 T2;go_wp2_with fail
    go_ret2
    refine⟨HB2.out,?_⟩
    rw[HANS.out];rfl
   ·have hlt':¬(m:Int)<((4*L:Nat):Int):=(by omega);have HN:Hid (fN (nums s) (8-(4+1)) (4+1) (m-(4*L))=cL (nums s) n):=by
     have ht:=HT.out;rw[show 8-4=3+1 from rfl,aQ _ _ _ _ L (by rw[af,hL]) hlt]at ht;exact ht
    have hsub:(m:Int)-((4*L:Nat):Int)=((m-(4*L):Nat):Int):=(by omega);have hsub0:(0:Int)≤((m-(4*L):Nat):Int):=(by omega);have hle:m-(4*L)≤n:=(by omega);generalize hrest:m-(4*L)=M1 at*;generalize hmany:((4*L:Nat):Int)=MM at*;go_wp2_with fail
    go_roundw
    case rel=>exact ⟨4+1,M1,by omega,hle,by first|rfl|rw[hsub],rfl,HN.out,HBr.out.alloc (by omega) _⟩
    case measure=>simp [intOf]
  |5,_=>
   have a:=(HA.out wr hB 10 (by omega)).trans a5;have b:=(HA.out wr hB 11 (by omega)).trans b5;clear hB a0 b0 a1 b1 a2 b2 a3 b3 a4 b4 a5 b5 a6 b6 a7 b7 HA;by_cases hlt:m<(5*L)
   ·have hlt':(m:Int)<((5*L:Nat):Int):=(by omega);have HANS:Hid (cL (nums s) n=some (ey (nums s) m 5)):=by
     rw[←HT.out,show 8-5=2+1 from rfl,fN,af,hL];exact if_pos hlt
    generalize hmany:((5*L:Nat):Int)=MM at*;go_wp2_with fail
    obtain⟨T0,B0⟩:=jx (wr.alloc (.cells #[.int .i64 MM,.func (.func 160) #[] #[]] 185)) s (by omega)
    rw[World.size_alloc,hL]at T0;have B0m:=B0.mono (B':=wr.heap.size) (by simp);have B0n:Below wr.heap.size wr (Lib.bytesWorld (wr.alloc (.cells #[.int .i64 MM,.func (.func 160) #[] #[]] 185)) 5 s):=((Below.refl _ _).alloc (Nat.le_refl _) _).trans B0m;clear B0 B0m;generalize Lib.bytesWorld (wr.alloc (.cells #[.int .i64 MM,.func (.func 160) #[] #[]] 185)) 5 s=w3 at T0 B0n⊢;generalize grownCap (wr.alloc (.cells #[.int .i64 MM,.func (.func 160) #[] #[]] 185)) L 0 5=G3 at T0⊢;have eL:(nums s).length=L:=(by rw[af,hL]);have HCC:Calls Tryz.prog 160 #[.slice (some ⟨wr.heap.size+1,0,none⟩) (nums s).length G3,.int .i64 m] w3 (cD w3 (wr.heap.size+1) (ey (nums s) m 5)):=Eg _ _ _ _ T0 hn24 (((HM.out.below HB1.out hz).below HBr.out (by omega)).below B0n (by omega)) m (by rw[eL];exact hlt);rw[eL]at HCC;generalize ey (nums s) m 5=lx at HCC HANS;refine HCC.mono ?_;rintro e w2 ⟨g2,cap2,hg2,rfl,T2,B2⟩;have cv:=fF T2;generalize lx.length=L2 at cv⊢;have HB2:Hid (Below w.heap.size w w2):=(HB1.out.trans (HBr.out.mono (by omega))).trans ((B0n.mono (by omega)).trans (B2.mono (by omega)));clear T0 B0n HCC B2 T2;go_wp2_with fail
    go_ret2
    refine⟨HB2.out,?_⟩
    rw[HANS.out];rfl
   ·have hlt':¬(m:Int)<((5*L:Nat):Int):=(by omega);have HN:Hid (fN (nums s) (8-(5+1)) (5+1) (m-(5*L))=cL (nums s) n):=by
     have ht:=HT.out;rw[show 8-5=2+1 from rfl,aQ _ _ _ _ L (by rw[af,hL]) hlt]at ht;exact ht
    have hsub:(m:Int)-((5*L:Nat):Int)=((m-(5*L):Nat):Int):=(by omega);have hsub0:(0:Int)≤((m-(5*L):Nat):Int):=(by omega);have hle:m-(5*L)≤n:=(by omega);generalize hrest:m-(5*L)=M1 at*;generalize hmany:((5*L:Nat):Int)=MM at*;go_wp2_with fail
    go_roundw
    case rel=>exact ⟨5+1,M1,by omega,hle,by first|rfl|rw[hsub],rfl,HN.out,HBr.out.alloc (by omega) _⟩
    case measure=>simp [intOf]
  |6,_=>
   have a:=(HA.out wr hB 12 (by omega)).trans a6;have b:=(HA.out wr hB 13 (by omega)).trans b6;clear hB a0 b0 a1 b1 a2 b2 a3 b3 a4 b4 a5 b5 a6 b6 a7 b7 HA;by_cases hlt:m<(L)
   ·have hlt':(m:Int)<((L:Nat):Int):=(by omega);have HANS:Hid (cL (nums s) n=some (ey (nums s) m 6)):=by
     rw[←HT.out,show 8-6=1+1 from rfl,fN,af,hL];exact if_pos hlt
    generalize hmany:((L:Nat):Int)=MM at*;go_wp2_with fail
    obtain⟨T0,B0⟩:=jx (wr.alloc (.cells #[.int .i64 MM,.func (.func 161) #[] #[]] 185)) s (by omega)
    rw[World.size_alloc,hL]at T0;have B0m:=B0.mono (B':=wr.heap.size) (by simp);have B0n:Below wr.heap.size wr (Lib.bytesWorld (wr.alloc (.cells #[.int .i64 MM,.func (.func 161) #[] #[]] 185)) 5 s):=((Below.refl _ _).alloc (Nat.le_refl _) _).trans B0m;clear B0 B0m;generalize Lib.bytesWorld (wr.alloc (.cells #[.int .i64 MM,.func (.func 161) #[] #[]] 185)) 5 s=w3 at T0 B0n⊢;generalize grownCap (wr.alloc (.cells #[.int .i64 MM,.func (.func 161) #[] #[]] 185)) L 0 5=G3 at T0⊢;have eL:(nums s).length=L:=(by rw[af,hL]);have HCC:Calls Tryz.prog 161 #[.slice (some ⟨wr.heap.size+1,0,none⟩) (nums s).length G3,.int .i64 m] w3 (cD w3 (wr.heap.size+1) (ey (nums s) m 6)):=pE _ _ _ _ T0 hn24 m (by rw[eL];exact hlt);rw[eL]at HCC;generalize ey (nums s) m 6=lx at HCC HANS;refine HCC.mono ?_;rintro e w2 ⟨g2,cap2,hg2,rfl,T2,B2⟩;have cv:=fF T2;generalize lx.length=L2 at cv⊢;have HB2:Hid (Below w.heap.size w w2):=(HB1.out.trans (HBr.out.mono (by omega))).trans ((B0n.mono (by omega)).trans (B2.mono (by omega)));clear T0 B0n HCC B2 T2;go_wp2_with fail
    go_ret2
    refine⟨HB2.out,?_⟩
    rw[HANS.out];rfl
   ·have hlt':¬(m:Int)<((L:Nat):Int):=(by omega);have HN:Hid (fN (nums s) (8-(6+1)) (6+1) (m-(L))=cL (nums s) n):=by
     have ht:=HT.out;rw[show 8-6=1+1 from rfl,aQ _ _ _ _ L (by rw[af,hL]) hlt]at ht;exact ht
    have hsub:(m:Int)-((L:Nat):Int)=((m-(L):Nat):Int):=(by omega);have hsub0:(0:Int)≤((m-(L):Nat):Int):=(by omega);have hle:m-(L)≤n:=(by omega);generalize hrest:m-(L)=M1 at*;generalize hmany:((L:Nat):Int)=MM at*;go_wp2_with fail
    go_roundw
    case rel=>exact ⟨6+1,M1,by omega,hle,by first|rfl|rw[hsub],rfl,HN.out,HBr.out.alloc (by omega) _⟩
    case measure=>simp [intOf]
  |7,_=>
   have a:=(HA.out wr hB 14 (by omega)).trans a7;have b:=(HA.out wr hB 15 (by omega)).trans b7;clear hB a0 b0 a1 b1 a2 b2 a3 b3 a4 b4 a5 b5 a6 b6 a7 b7 HA;by_cases hlt:m<(if 24≤L then 0 else L)
   ·have hlt':(m:Int)<((if 24≤L then 0 else L:Nat):Int):=(by omega);have HANS:Hid (cL (nums s) n=some (ey (nums s) m 7)):=by
     rw[←HT.out,show 8-7=0+1 from rfl,fN,af,hL];exact if_pos hlt
    generalize hmany:((if 24≤L then 0 else L:Nat):Int)=MM at*;go_wp2_with fail
    obtain⟨T0,B0⟩:=jx (wr.alloc (.cells #[.int .i64 MM,.func (.func 162) #[] #[]] 185)) s (by omega)
    rw[World.size_alloc,hL]at T0;have B0m:=B0.mono (B':=wr.heap.size) (by simp);have B0n:Below wr.heap.size wr (Lib.bytesWorld (wr.alloc (.cells #[.int .i64 MM,.func (.func 162) #[] #[]] 185)) 5 s):=((Below.refl _ _).alloc (Nat.le_refl _) _).trans B0m;clear B0 B0m;generalize Lib.bytesWorld (wr.alloc (.cells #[.int .i64 MM,.func (.func 162) #[] #[]] 185)) 5 s=w3 at T0 B0n⊢;generalize grownCap (wr.alloc (.cells #[.int .i64 MM,.func (.func 162) #[] #[]] 185)) L 0 5=G3 at T0⊢;have eL:(nums s).length=L:=(by rw[af,hL]);have HCC:Calls Tryz.prog 162 #[.slice (some ⟨wr.heap.size+1,0,none⟩) (nums s).length G3,.int .i64 m] w3 (cD w3 (wr.heap.size+1) (ey (nums s) m 7)):=yK _ _ _ _ T0 hn24 m (by rw[eL];split at hlt<;>omega);rw[eL]at HCC;generalize ey (nums s) m 7=lx at HCC HANS;refine HCC.mono ?_;rintro e w2 ⟨g2,cap2,hg2,rfl,T2,B2⟩;have cv:=fF T2;generalize lx.length=L2 at cv⊢;have HB2:Hid (Below w.heap.size w w2):=(HB1.out.trans (HBr.out.mono (by omega))).trans ((B0n.mono (by omega)).trans (B2.mono (by omega)));clear T0 B0n HCC B2 T2;go_wp2_with fail
    go_ret2
    refine⟨HB2.out,?_⟩
    rw[HANS.out];rfl
   ·have hlt':¬(m:Int)<((if 24≤L then 0 else L:Nat):Int):=(by omega);have HN:Hid (fN (nums s) (8-(7+1)) (7+1) (m-(if 24≤L then 0 else L))=cL (nums s) n):=by
     have ht:=HT.out;rw[show 8-7=0+1 from rfl,aQ _ _ _ _ L (by rw[af,hL]) hlt]at ht;exact ht
    have hsub:(m:Int)-((if 24≤L then 0 else L:Nat):Int)=((m-(if 24≤L then 0 else L):Nat):Int):=(by omega);have hsub0:(0:Int)≤((m-(if 24≤L then 0 else L):Nat):Int):=(by omega);have hle:m-(if 24≤L then 0 else L)≤n:=(by omega);generalize hrest:m-(if 24≤L then 0 else L)=M1 at*;generalize hmany:((if 24≤L then 0 else L:Nat):Int)=MM at*;go_wp2_with fail
    go_roundw
    case rel=>exact ⟨7+1,M1,by omega,hle,by first|rfl|rw[hsub],rfl,HN.out,HBr.out.alloc (by omega) _⟩
    case measure=>simp [intOf]
  |8,_=>
   have HANS:=hid HT.out.symm;clear hB a0 b0 a1 b1 a2 b2 a3 b3 a4 b4 a5 b5 a6 b6 a7 b7 HA;go_wp2_with fail
   go_ret2
   refine⟨HB1.out.trans (HBr.out.mono (by omega)),?_⟩
   rw[HANS.out];rfl
  |j+9,hj=>omega
theorem gY (kept:List dQ)(fits:Nat→Bool):∀(n b:Nat),bF kept fits n=some b→b<n∧fits b=true
 |0,b,e=>by cases e
 |n+1,b,e=>by
  unfold bF at e;split at e
  ·split at e
   ·rename_i hf
    injection e with e;subst e
    exact⟨by omega,hf⟩
   ·cases e
  ·rename_i c hc
   have ih:=gY kept fits n c hc;split at e
   ·rename_i hf
    injection e with e;subst e;simp at hf
    exact⟨by omega,hf.1⟩
   ·injection e with e;subst e
    exact⟨by omega,ih.2⟩
theorem mH (kept:List dQ)(fits:Nat→Bool):∀n,bF kept fits n=none→∀m,m<n→fits m=false
 |0,_,m,hm=>by omega
 |n+1,e,m,hm=>by
  unfold bF at e;split at e
  ·rename_i hc
   split at e
   ·cases e
   ·rename_i hf
    by_cases h:m=n
    ·subst h;simpa using hf
    ·exact mH kept fits n hc m (by omega)
  ·split at e<;>cases e
structure pz (kept:List dQ) (l:List Nat):Prop where
 lt:∀n∈l,n<kept.length
 nodup:l.Nodup
theorem BU {kept:List dQ}{l:List Nat}(h:pz kept l)(p:Nat)(b:Int):pz kept (gP kept p b l)∧(∀n∈l,n∈gP kept p b l)∧∀m,m<kept.length→bg kept p b m=true→(gP kept p b l).any (bg kept p b)=true:=by
 unfold gP;by_cases ha:l.any (bg kept p b)=true
 ·rw[if_pos ha]
  exact⟨h,fun _ hn=>hn,fun _ _ _=>ha⟩
 ·rw[if_neg ha];split
  ·rename_i hs
   refine⟨h,fun _ hn=>hn,fun m hm hk=> ?_⟩
   have:=mH kept _ _ hs m hm
   rw[this]at hk;cases hk
  ·rename_i n hs
   obtain⟨h1,h2⟩:=gY kept _ _ _ hs
   have hni:n∉l:=fun hin=>ha (List.any_eq_true.2 ⟨n,hin,h2⟩)
   refine⟨⟨fun m hm=> ?_,?_⟩,fun m hm=>by simp[hm],fun m _ _=> ?_⟩
   ·rcases List.mem_append.1 hm with hm|hm
    ·exact h.lt m hm
    ·simp at hm;omega
   ·rw[List.nodup_append]
    refine⟨h.nodup,by simp,?_⟩
    intro a ha' c hc;simp at hc;subst hc;exact fun e=>hni (e▸ha')
   ·rw[List.any_append];simp[h2]
theorem wC {l l':List Nat}{f:Nat→Bool}(h:∀n∈l,n∈l')(ha:l.any f=true):l'.any f=true:=by
 obtain⟨n,hn,hf⟩:=List.any_eq_true.1 ha
 exact List.any_eq_true.2 ⟨n,h n hn,hf⟩
theorem ku {kept:List dQ}(p:Nat):∀(k:Nat) (l:List Nat),pz kept l→pz kept (bG kept p k l)∧(∀n∈l,n∈bG kept p k l)∧∀j,j<k→∀m,m<kept.length→bg kept p (eA j) m=true→(bG kept p k l).any (bg kept p (eA j))=true
 |0,_,h=>⟨h,fun _ hn=>hn,fun j hj=>by omega⟩
 |k+1,l,h=>by
  obtain⟨h1,h2,h3⟩:=ku p k l h
  obtain⟨g1,g2,g3⟩:=BU h1 p (eA k)
  refine⟨g1,fun n hn=>g2 n (h2 n hn),fun j hj m hm hk=> ?_⟩
  by_cases e:j=k
  ·subst e;exact g3 m hm hk
  ·exact wC g2 (h3 j (by omega) m hm hk)
theorem gB (kept:List dQ):∀q,pz kept (aR kept q)∧∀p,p<q→∀j,j<8→∀m,m<kept.length→bg kept p (eA j) m=true→(aR kept q).any (bg kept p (eA j))=true
 |0=>⟨⟨(fun n hn=>by simp[aR]at hn),List.nodup_nil⟩,fun p hp=>by omega⟩
 |q+1=>by
  obtain⟨h1,h2⟩:=gB kept q
  obtain⟨g1,g2,g3⟩:=ku (kept:=kept) q 8 _ h1
  refine⟨g1,fun p hp j hj m hm hk=> ?_⟩
  by_cases e:p=q
  ·subst e;exact g3 j hj m hm hk
  ·exact wC g2 (h2 p (by omega) j hj m hm hk)
theorem iM (kept:List dQ):pz kept (cu kept):=(gB kept 64).1
theorem uj (kept:List dQ)(n:Nat):n∈bE kept↔n∈cu kept:=by
 unfold bE;rw[List.mem_filter,List.mem_range,List.contains_iff_mem]
 exact⟨fun h=>h.2,fun h=>⟨(iM kept).lt n h,h⟩⟩
theorem JL (kept:List dQ):∀n∈bE kept,n<kept.length:=fun n hn=>(iM kept).lt n ((uj kept n).1 hn)
theorem qP (kept:List dQ):(bE kept).Pairwise (·<·):=List.Pairwise.filter _ List.pairwise_lt_range
theorem wD (kept:List dQ):(bE kept).Perm (cu kept):=by
 refine(List.perm_ext_iff_of_nodup ?_ (iM kept).nodup).2 (uj kept)
 exact(qP kept).imp (fun h=>Nat.ne_of_lt h)
theorem uk {x:Int}(h:jl x)(h0:x≠0):∃j,j<8∧x=eA j:=by
 rcases h with rfl|rfl|rfl|rfl|rfl|rfl|rfl|rfl|rfl
 ·exact absurd rfl h0
 ·exact⟨0,by omega,rfl⟩
 ·exact⟨1,by omega,rfl⟩
 ·exact⟨2,by omega,rfl⟩
 ·exact⟨3,by omega,rfl⟩
 ·exact⟨4,by omega,rfl⟩
 ·exact⟨5,by omega,rfl⟩
 ·exact⟨6,by omega,rfl⟩
 ·exact⟨7,by omega,rfl⟩
theorem nH {j:Nat}(h:j<8):jl (eA j):=by
 unfold eA jl;match j,h with
 |0,_|1,_|2,_|3,_|4,_|5,_|6,_|7,_=>decide
 |j+8,h=>omega
theorem Hq (kept:List dQ)(p:Nat)(hp:p<64)(i:Nat)(k:dQ)(hi:kept[i]?=some k)(hc:jl (k.aV p))(h0:k.aV p≠0):∃n∈bE kept,∃k',kept[n]?=some k'∧k'.aV p=k.aV p:=by
 obtain⟨j,hj,e⟩:=uk hc h0
 have hlt:=(List.getElem?_eq_some_iff.1 hi).1;have hk:bg kept p (eA j) i=true:=by
  unfold bg hasB;rw[hi,←e];simp[h0]
 obtain⟨n,hn,hf⟩:=List.any_eq_true.1 ((gB kept 64).2 p hp j hj i hlt hk)
 have hnl:=(iM kept).lt n hn
 refine⟨n,(uj kept n).2 hn,_,List.getElem?_eq_getElem hnl,?_⟩
 unfold bg hasB at hf;rw[List.getElem?_eq_getElem hnl]at hf;simp at hf;rw[e];exact hf.1
theorem nI {R:ByteArray→Sh}{h:HS}(p:cE R h)(hR:sO R)(hk:0<h.kept.length):bE h.kept≠[]:=by
 have e:=List.getElem?_eq_getElem hk
 obtain⟨h1,_,h3,h4⟩:=p.kept 0 _ e
 unfold jo at h4
 obtain⟨q,hq,hb⟩:=List.any_eq_true.1 h4
 rw[List.mem_range]at hq;simp at hb
 obtain⟨n,hn,_⟩:=Hq h.kept q hq 0 _ e (by rw[h3];exact hR.aV _ h1 q) hb
 intro c;rw[c]at hn;cases hn
theorem lz (a b:Nat)(ha:a<256)(hb:b<256):bits .or .u8 (a:Int) (b:Int)=((a|||b:Nat):Int):=by
 have hx:a|||b<2^8:=Nat.or_lt_two_pow (by omega) (by omega);have h1:(BitVec.ofInt 8 (a:Int)).toNat=a:=by
  rw[BitVec.ofInt_natCast,BitVec.toNat_ofNat];exact Nat.mod_eq_of_lt (by omega)
 have h2:(BitVec.ofInt 8 (b:Int)).toNat=b:=by
  rw[BitVec.ofInt_natCast,BitVec.toNat_ofNat];exact Nat.mod_eq_of_lt (by omega)
 show IntKind.u8.wrap ((BitVec.ofInt 8 (a:Int)|||BitVec.ofInt 8 (b:Int)).toNat:Int)=_;rw[BitVec.toNat_or,h1,h2,IntKind.wrap_u8];omega
theorem kS (a b:Nat)(ha:a<256)(hb:b<256):bits .andNot .u8 (a:Int) (b:Int)=((a&&&(255-b):Nat):Int):=by
 have hx:a&&&(255-b)<2^8:=Nat.and_lt_two_pow _ (by omega);have h1:(BitVec.ofInt 8 (a:Int)).toNat=a:=by
  rw[BitVec.ofInt_natCast,BitVec.toNat_ofNat];exact Nat.mod_eq_of_lt (by omega)
 have h2:(BitVec.ofInt 8 (b:Int)).toNat=b:=by
  rw[BitVec.ofInt_natCast,BitVec.toNat_ofNat];exact Nat.mod_eq_of_lt (by omega)
 show IntKind.u8.wrap ((BitVec.ofInt 8 (a:Int)&&& ~~~BitVec.ofInt 8 (b:Int)).toNat:Int)=_;rw[BitVec.toNat_and,BitVec.toNat_not,h1,h2,IntKind.wrap_u8,show 2^8-1-b=255-b by omega];omega
def aS (l:List dQ)(p:Nat):Nat:=l.foldl (fun a k=>a|||(k.aV p).toNat) 0
theorem sU (p j:Nat):∀(l:List dQ) (a:Nat),(l.foldl (fun a k=>a|||(k.aV p).toNat) a).testBit j=(a.testBit j||l.any fun k=>(k.aV p).toNat.testBit j)
 |[],a=>by simp
 |k::l,a=>by
  rw[List.foldl_cons,sU p j l,Nat.testBit_or,List.any_cons,Bool.or_assoc]
theorem sV (l:List dQ)(p j:Nat):(aS l p).testBit j=l.any fun k=>(k.aV p).toNat.testBit j:=by
 unfold aS;rw[sU]
 simp
theorem Ap (p:Nat):∀(l:List dQ) (a:Nat),a<256→(∀k∈l,jl (k.aV p))→l.foldl (fun a k=>a|||(k.aV p).toNat) a<256
 |[],a,h,_=>h
 |k::l,a,h,hc=>by
  rw[List.foldl_cons]
  have:=(hc k (by simp)).bd
  exact Ap p l _ (Nat.or_lt_two_pow (n:=8) (by omega) (by omega)) (fun q hq=>hc q (by simp[hq]))
theorem qi (l:List dQ)(p:Nat)(hc:∀k∈l,jl (k.aV p)):aS l p<256:=Ap p l 0 (by omega) hc
theorem sW (l:List dQ)(k:dQ)(p:Nat):aS (l++[k]) p=aS l p|||(k.aV p).toNat:=by
 unfold aS;rw[List.foldl_append];rfl
theorem jV {i j:Nat}(hi:i<8):(eA i).toNat.testBit j=decide (i=j):=by
 unfold eA
 have:((2:Int)^i).toNat=2^i:=by
  match i,hi with
  |0,_|1,_|2,_|3,_|4,_|5,_|6,_|7,_=>rfl
  |i+8,h=>omega
 rw[this,Nat.testBit_two_pow]
theorem Hr {i j:Nat}(hi:i<8)(hj:j<8)(h:eA i=eA j):i=j:=by
 have:=jV (i:=i) (j:=i) hi
 rw[h,jV hj]at this;simp at this;exact this.symm
theorem Ee (l:List dQ)(p:Nat)(c:Int)(hc:jl c)(hl:∀k∈l,jl (k.aV p)):(bits .andNot .u8 c (aS l p:Nat)≠0)↔(c≠0∧(l.any fun k=>hasB (k.aV p) c)=false):=by
 have hs:=qi l p hl;by_cases h0:c=0
 ·subst h0;rw[show(0:Int)=((0:Nat):Int)from rfl,kS 0 _ (by omega) hs]
  simp
 ·obtain⟨j,hj,rfl⟩:=uk hc h0
  have hb:=(nH hj).bd
  obtain⟨n,hn⟩:∃n:Nat,eA j=n:=⟨(eA j).toNat,by omega⟩
  have ht:∀i,n.testBit i=decide (j=i):=fun i=>by
   have:=jV (j:=i) hj
   rw[hn]at this;simpa using this
  have key:(n&&&(255-aS l p))≠0↔(aS l p).testBit j=false:=by
   have hsub:(255-aS l p).testBit j= !(aS l p).testBit j:=by
    have:=Nat.testBit_two_pow_sub_succ (x:=aS l p) (n:=8) (by omega) j
    rw[show 2^8-(aS l p+1)=255-aS l p by omega]at this;rw[this];simp[hj]
   constructor
   ·intro h
    cases e:(aS l p).testBit j with
    |false=>rfl
    |true=>
     exfalso;apply h;apply Nat.eq_of_testBit_eq;intro i;rw[Nat.testBit_and,ht i];by_cases q:j=i
     ·subst q;rw[hsub,e];simp
     ·simp[q]
   ·intro h e
    have:(n&&&(255-aS l p)).testBit j=true:=by rw[Nat.testBit_and,ht j,hsub,h];simp
    rw[e]at this;simp at this
  rw[hn,kS n _ (by omega) hs];rw[show(((n&&&(255-aS l p):Nat):Int)≠0)↔(n&&&(255-aS l p))≠0 by omega,key,sV];have e2:(l.any fun k=>(k.aV p).toNat.testBit j)=l.any fun k=>hasB (k.aV p) (n:Int):=by
   rw[Bool.eq_iff_iff,List.any_eq_true,List.any_eq_true];refine exists_congr fun k=>and_congr_right fun hk=> ?_
   unfold hasB;have hcl:=hl k hk;by_cases hz:k.aV p=0
   ·rw[hz];simp;omega
   ·obtain⟨i,hi,e⟩:=uk hcl hz
    rw[e,jV hi,←hn];simp only[decide_eq_true_eq,Bool.and_eq_true]
    exact⟨fun q=>by subst q;exact⟨rfl,by rw[←e];exact hz⟩,fun q=>Hr hi hj q.1⟩
  rw[e2]
  exact⟨fun q=>⟨by rw[←hn];exact h0,q⟩,fun q=>q.2⟩
def gi (c:Int):Option Int:=if 48≤c∧c≤57 then some (c-48)else if 97≤c∧c≤102 then some (c-87)else none
def bA:List Int→Option (List Int)
 |[]=>some []
 |[_]=>none
 |a::b::l=>match gi a,gi b,bA l with
  |some x,some y,some r=>some ((16*x+y)::r)
  |_,_,_=>none
def dJ:List Int→Option (Bool×ByteArray)
 |a::b::rest=>if (a=113∨a=99)∧b=32∧rest.length≤48∧rest.length%2=0 then(bA rest).map fun l=>(decide (a=113),strOfNums l)else none
 |_=>none
def sR (b:Bool)(s:ByteArray):List Int:=letter b::32::ei (nums s)
theorem sS (b:Bool)(s:ByteArray):cI b s=sR b s++[10]:=rfl
theorem lU {c x:Int}(h:gi c=some x):oB x=c∧0≤x∧x≤15:=by
 unfold gi at h;split at h
 ·injection h with h
  obtain⟨k,rfl⟩:∃k:Nat,x=k:=⟨x.toNat,by omega⟩
  have hk:k<10:=by omega
  obtain rfl:c=k+48:=by omega
  match k,hk with
  |0,_|1,_|2,_|3,_|4,_|5,_|6,_|7,_|8,_|9,_=>decide
  |k+10,h=>omega
 ·split at h
  ·injection h with h
   obtain⟨k,rfl⟩:∃k:Nat,x=k:=⟨x.toNat,by omega⟩
   obtain rfl:c=k+87:=by omega
   have hk:10≤k∧k<16:=by omega
   obtain⟨j,rfl⟩:∃j,k=j+10:=⟨k-10,by omega⟩
   have hj:j<6:=(by omega);match j,hj with
   |0,_|1,_|2,_|3,_|4,_|5,_=>decide
   |j+6,h=>omega
  ·cases h
theorem jw:∀l:List Int,(ei l).length=2*l.length
 |[]=>rfl
 |x::l=>by simp[ei,jw l];omega
theorem mX:∀(r l:List Int),bA r=some l→ei l=r∧iL l∧r.length=2*l.length
 |[],l,e=>by cases e;exact⟨rfl,(fun x hx=>by simp at hx),rfl⟩
 |[_],_,e=>by cases e
 |a::b::r,l,e=>by
  unfold bA at e;split at e
  ·rename_i x y r' h1 h2 h3
   injection e with e;subst e
   obtain⟨g1,g2,g3⟩:=mX r r' h3
   obtain⟨p1,p2,p3⟩:=lU h1
   obtain⟨q1,q2,q3⟩:=lU h2
   refine⟨?_,?_,?_⟩
   ·simp only[ei];rw[show(16*x+y)/16=x by omega,show(16*x+y)%16=y by omega,p1,q1,g1]
   ·intro z hz;rcases List.mem_cons.1 hz with rfl|hz
    ·omega
    ·exact g2 z hz
   ·simp[g3];omega
  ·cases e
theorem qh {l:List Int}{b:Bool}{s:ByteArray}(h:dJ l=some (b,s)):l=sR b s∧s.size≤24:=by
 unfold dJ at h;split at h
 ·rename_i a c rest
  split at h
  ·rename_i hc
   obtain⟨ha,rfl,h1,h2⟩:=hc
   cases hd:bA rest with
   |none=>rw [hd]at h;cases h
   |some t=>
    rw[hd]at h;simp only[Option.map_some,Option.some.injEq,Prod.mk.injEq]at h
    obtain⟨hb,rfl⟩:=h
    obtain⟨g1,g2,g3⟩:=mX rest t hd
    refine⟨?_,by rw[eZ];omega⟩
    unfold sR letter;rw[bz g2,g1];rcases ha with rfl|rfl
    ·simp at hb;subst hb;rfl
    ·simp at hb;subst hb;rfl
  ·cases h
 ·cases h
def jG (acc:List Int):List Int→List (List Int)
 |[]=>[]
 |x::l=>if x=10 then acc::jG [] l else jG (acc++[x]) l
def aN (l:List Int):List (List Int):=jG [] l
theorem p9:∀(a acc:List Int),(10:Int)∉a→jG acc a=[]
 |[],_,_=>rfl
 |x::a,acc,h=>by
  unfold jG;rw[if_neg (fun e=>h (by simp[e]))];exact p9 a _ (fun e=>h (by simp[e]))
theorem qO:∀(a b acc:List Int),(10:Int)∉a→jG acc (a++10::b)=(acc++a)::aN b
 |[],b,acc,_=>by simp[jG,aN]
 |x::a,b,acc,h=>by
  show(if x=10 then _ else jG (acc++[x]) (a++10::b))=_
  rw[if_neg (fun e=>h (by simp[e])),qO a b _ (fun e=>h (by simp[e]))]
  simp
theorem BT (a b:List Int)(h:(10:Int)∉a):aN (a++10::b)=a::aN b:=qO a b [] h
theorem yG (a:List Int)(h:(10:Int)∉a):aN a=[]:=p9 a [] h
def aZ (R:ByteArray→Sh):Nat→HS→List (List Int)→HS×Option Nat
 |_,h,[]=>(h,none)
 |k,h,l::ls=>match dJ l with
  |none=>(h,some k)
  |some x=>if (aD R h x.2).2=letter x.1 then aZ R (k+1) (aD R h x.2).1 ls else((aD R h x.2).1,some k)
theorem lV (R:ByteArray→Sh):∀(ls:List (List Int)) (k:Nat) (h h':HS),aZ R k h ls=(h',none)→∃l:List (Bool×ByteArray),ls=l.map (fun x=>sR x.1 x.2)∧(∀x∈l,x.2.size≤24)∧gJ R h l=some h'
 |[],_,_,_,e=>by
  injection e with e _;subst e
  exact⟨[],rfl,by simp,rfl⟩
 |y::ls,k,h,h',e=>by
  unfold aZ at e;split at e
  ·cases e
  ·rename_i x hx
   split at e
   ·rename_i hl
    obtain⟨l,h1,h2,h3⟩:=lV R ls (k+1) _ h' e
    obtain⟨g1,g2⟩:=qh (b:=x.1) (s:=x.2) hx
    refine⟨x::l,by rw[List.map_cons,←h1,←g1],?_,?_⟩
    ·intro z hz;rcases List.mem_cons.1 hz with rfl|hz
     ·exact g2
     ·exact h2 z hz
    ·show(if _ then _ else _)=_
     rw[if_pos hl];exact h3
   ·cases e
end Go.Proofs.YtmpgjkhchfcjlaaGreatDoor
