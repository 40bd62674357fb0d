import Derived.Test.YtmpgjkhchfcjlaaGreatDoorM14
namespace Go.Proofs.YtmpgjkhchfcjlaaGreatDoor
open Go.RowKit
set_option maxHeartbeats 2000000
set_option maxRecDepth 100000
theorem WR.drew {base W:Nat}{w:World}{vc vf:Value}{cs fs:List Int}(h:WR base W w vc vf cs fs):WR base W w.drew vc vf cs fs:=
 ⟨h.c0,h.c1,h.thaw,h.bI,h.bR,h.apart,h.lt,h.le⟩
theorem FI {w:World}{base:Nat}{e:TypeId}{size:Nat}{v:Value}{n:Nat}{xs:List Value}(h:w.ownsRow base e size v n xs):some w.heap.size≠v.ownBlock:=
 fun c=>by have:=(h.lt _ c.symm).2;omega
theorem oT {base W:Nat}{w:World}{vc vf:Value}{cs fs:List Int}(h:WR base W w vc vf cs fs)(x y:Int):Given (w.alloc (.cells #[.int .u8 x,.int .u8 y] 5)) W vc vf w.heap.size 0 [x,y] where
 cell:=by
  intro j z hz;rw[Nat.zero_add,World.cell?_alloc_new];match j,hz with
  |0,hz=>simp at hz;rw[←hz];rfl
  |1,hz=>simp at hz;rw[←hz];rfl
  |j+2,hz=>simp at hz
 lt:=by simp
 n1:=FI h.bI
 n2:=FI h.bR
 n3:=by have:=h.lt;have:=h.le;omega
theorem kP {base W:Nat}{w:World}{vc vf:Value}{cs fs:List Int}(h:WR base W w vc vf cs fs){cb co:Nat}{xs:List Int}(hc:∀(j:Nat) (x:Int),xs[j]?=some x→w.cell? ⟨cb,co+j,none⟩=some (.int .u8 x))(hb:cb<W):Given w W vc vf cb co xs where
 cell:=hc
 lt:=by have:=h.lt;have:=h.le;omega
 n1:=dA h.bI (by have:=h.lt;omega)
 n2:=dA h.bR (by have:=h.lt;omega)
 n3:=by omega
theorem Kept.drew {B M:Nat}{w w':World}(h:Kept B M w w'):Kept B M w w'.drew:=⟨h.os,h.tape,h.output,h.size,h.block⟩
structure PW (w w2:World) (cb co L cap N:Nat) (c:Nat→Int) (W:Nat) (wr:World) (cs fs:List Int):Prop where
 kept:Kept (W+1) W w2 wr
 own:∃vc vf,WR (W+1) W wr vc vf cs fs
 low:Below w.heap.size w wr
 row:wr.heap[w.heap.size]?=some (.cells (il L (cP (aT c N) L)).toArray 3 (0,0))
 code:Laid wr cb co L cap c
 tab:bK wr
theorem PW.next {w w2:World}{cb co L cap N:Nat}{c:Nat→Int}{W:Nat}{wr wx:World}{cs fs ds gs:List Int}(h:PW w w2 cb co L cap N c W wr cs fs)(hW:w.heap.size<W)(C:Laid w cb co L cap c)(hT:bK w)(K:Kept (W+1) W wr wx)(hR:∃vc vf,WR (W+1) W wx vc vf ds gs):PW w w2 cb co L cap N c W wx ds gs where
 kept:=h.kept.trans K
 own:=hR
 low:=jK h.low K (by omega) (by omega)
 row:=(K.block _ (by omega) (by omega)).trans h.row
 code:=C.below (jK h.low K (by omega) (by omega))
 tab:=hT.below (jK h.low K (by omega) (by omega))
theorem PW.alloc {w w2:World}{cb co L cap N:Nat}{c:Nat→Int}{W:Nat}{wr:World}{cs fs:List Int}(h:PW w w2 cb co L cap N c W wr cs fs)(hW:w.heap.size<W)(C:Laid w cb co L cap c)(hT:bK w)(o:Obj):PW w w2 cb co L cap N c W (wr.alloc o) cs fs:=by
 obtain⟨vc,vf,hR⟩:=h.own
 exact h.next hW C hT (Kept.alloc _ hR.le o) ⟨vc,vf,hR.alloc o⟩
theorem PW.drew {w w2:World}{cb co L cap N:Nat}{c:Nat→Int}{W:Nat}{wr:World}{cs fs:List Int}(h:PW w w2 cb co L cap N c W wr cs fs)(hW:w.heap.size<W)(C:Laid w cb co L cap c)(hT:bK w):PW w w2 cb co L cap N c W wr.drew cs fs:=by
 obtain⟨vc,vf,hR⟩:=h.own
 exact h.next hW C hT (Kept.refl _ _ _).drew ⟨vc,vf,hR.drew⟩
theorem FJ (c:Nat→Int)(p kk:Nat)(h:c p=(kk:Int)):bp (c p).toNat=bp kk:=by rw[h,Int.toNat_natCast]
theorem rN (w:World)(cb co L cap N:Nat)(c:Nat→Int)(V:VP c L N)(C:Laid w cb co L cap c)(hT:bK w):
  Calls Tryz.prog 68 #[.slice (some ⟨cb,co,none⟩) L cap] w fun e w'=>∃base W vc vf,w.heap.size≤W∧WR base W w' vc vf (bL c N L) (bf c N L)∧e=.returned (.tuple #[vc,vf])∧Below w.heap.size w w':=by
 have hfs:=dD;have hmost:=V.most;have hroom:=C.room;have hroom':=C.room';go_in;go_wp2_with fail
 refine(jP w cb co L cap N c V C hT).mono ?_
 rintro e w1 ⟨rfl,hg1,hB1⟩;have hW:w.heap.size<w1.heap.size:=(Array.getElem?_eq_some_iff.1 hg1).1;have P0:PW w (w1.alloc (.cells #[.slice none 0 0,.slice none 0 0] 173)) cb co L cap N c w1.heap.size (w1.alloc (.cells #[.slice none 0 0,.slice none 0 0] 173)) [] []:=by
  have hBa:Below w.heap.size w (w1.alloc (.cells #[.slice none 0 0,.slice none 0 0] 173)):=hB1.alloc (by omega) _
  refine⟨Kept.refl _ _ _,⟨.slice none 0 0,.slice none 0 0,?_⟩,hBa,by rw[Below.heap_alloc _ _ _ hW];exact hg1,C.below hBa,hT.below hBa⟩
  refine⟨World.cell?_alloc_new _ _ _ _,World.cell?_alloc_new _ _ _ _,fun j=> ?_,World.ownsRow_nil _ _ _ _,World.ownsRow_nil _ _ _ _,Or.inl rfl,by omega,by simp⟩
  exact frozen_of_row _ _ j _ _ (heap_alloc_new w1 _)
 have HP0:Hid (PW w (w1.alloc (.cells #[.slice none 0 0,.slice none 0 0] 173)) cb co L cap N c w1.heap.size (w1.alloc (.cells #[.slice none 0 0,.slice none 0 0] 173)) [] []):=P0;have hcb:cb<w.heap.size:=C.blk;clear P0 hg1;go_wp2_with fail
 go_loopw [7] (fun i wr=>∃m:Nat,m≤N∧i=.int .i64 (pos c m)∧PW w (w1.alloc (.cells #[.slice none 0 0,.slice none 0 0] 173)) cb co L cap N c w1.heap.size wr (bL c N (pos c m)) (bf c N (pos c m))) (fun i _=>L-(intOf i).toNat)
 case atStart=>exact ⟨0,by omega,rfl,HP0.out⟩
 case round=>
  clear HP0
  obtain⟨m,hm,rfl,hP⟩:=hrel
  generalize w1.alloc (.cells #[.slice none 0 0,.slice none 0 0] 173)=w2 at hP⊢;generalize w1.heap.size=W at hP hW⊢;by_cases hlt:m<N
  ·obtain⟨kk,A,hsucc⟩:=V.at hlt
   have hck:=hP.code.cell _ A.lt;rw[A.op]at hck;have h1:=A.lt;have h2:=A.fits;have h3:=A.sz;have h4:=A.s1;have h5:=A.s2;have h6:=A.pos;have hk:=A.k;have hop:=A.op;have HS:Hid (pos c (m+1)=pos c m+bp kk):=hsucc;have hi1:(pos c m:Int)<(L:Int):=by omega
   obtain⟨HN1,HN2⟩:=V.zX hlt
   have hszc:=FJ c _ _ hop;have hN1:Hid (bL c N (pos c (m+1))=(bL c N (pos c m)++(if aT c N (pos c m)then[20,(cK (aT c N) (pos c m):Int)]else[]))++jr c N m):=HN1;have hN2:Hid (bf c N (pos c (m+1))=(bf c N (pos c m)++(if aT c N (pos c m)then[-1,-1]else[]))++iC (pos c m) (bp kk)):=by
    show bf c N (pos c (m+1))=_;rw[HN2,hszc]
   clear HN1 HN2;have hle1:(bL c N (pos c m)).length≤240:=by rw[iQ];have:=zT (f:=aT c N) (Nat.le_of_lt h1);have:=V.xM;omega
   have hle2:(bf c N (pos c m)).length≤240:=by rw[cr];have:=zT (f:=aT c N) (Nat.le_of_lt h1);have:=V.xM;omega
   have ce:wr.cell? ⟨w.heap.size,pos c m,none⟩=some (.int .i64 (if aT c N (pos c m)then(cK (aT c N) (pos c m):Int)else -1)):=by
    rw[cell_of_row wr w.heap.size _ _ _ _ hP.row,List.getElem?_toArray,jF L _ _ h1];unfold cP vG;rw[if_pos h1]
   have hcnt:=gy (aT c N) (pos c m);generalize hcs:bL c N (pos c m)=cs at hP hN1 hle1;generalize hfs':bf c N (pos c m)=fs at hP hN2 hle2;generalize hcn:cK (aT c N) (pos c m)=cn at ce hN1 hcnt
   cases hb:aT c N (pos c m)with
   |false=>
    rw[hb]at ce hN1 hN2;rw[if_neg (by decide),List.append_nil]at hN1 hN2;have HP:Hid (PW w w2 cb co L cap N c W wr cs fs):=hP;have HTr:Hid (bK wr):=hP.tab;clear hP hb hcn hcs hfs' hsucc A;go_wp2_with fail
    refine(ak kk (by omega) _ HTr.out).mono ?_
    rintro e w4 ⟨rfl,cc,hw4⟩;have HP4:Hid (PW w w2 cb co L cap N c W w4 cs fs):=by rw[hw4];exact HP.out.alloc hW C hT _
    clear hw4;have hck4:=HP4.out.code.cell _ h1;rw[hop]at hck4;have hcb4:cb<w4.heap.size:=HP4.out.code.blk
    cases hlb:aW (kk:Int)with
    |true=>
     obtain⟨s,hs,hst⟩:=V.jump m hlt (by rw[hop];exact hlb)
     have hsz2:=(fC hlb).1;have hsh2:=(fC hlb).2;have hck2:=HP4.out.code.cell (pos c m+1) (by omega);rw[←hst]at hck2;have hsL:=V.lt hs;have hi2:(pos c s:Int)<(L:Int):=(by omega);have hi3:(pos c m:Int)+1<(L:Int):=(by omega);have hi4:(pos c s:Int)≤255:=(by omega);have hbs:=V.leadsTo hlt (by rw[hop];exact hlb) hst.symm;have hes:cP (aT c N) L (pos c s)=(cK (aT c N) (pos c s):Int):=by unfold cP vG;rw[if_pos hsL,hbs,if_pos rfl]
     have hcs0:=gy (aT c N) (pos c s);have HMV:Hid (Calls Tryz.prog 115 #[.int .u8 (pos c s:Int),.slice (some ⟨w.heap.size,0,none⟩) L L] w4 fun e w'=>e=.returned (.int .u8 ((pos c s:Int)+2*(cK (aT c N) (pos c s):Int)))∧∃cc,w'=w4.drew.alloc (.cells cc 176)):=by
      have:=tK w4 (pos c s) w.heap.size L (cP (aT c N) L) HP4.out.row hsL (by omega) (by rw[hes];omega) (by rw[hes];omega) HP4.out.tab
      rw[hes]at this;exact this
     have HX:Hid (jr c N m=[(kk:Int),(pos c s:Int)+2*(cK (aT c N) (pos c s):Int)]):=by
      show jr c N m=_;unfold jr;rw[hszc,if_pos hsz2,hop,hlb,if_pos rfl,←hst,Int.toNat_natCast]
     generalize hmv:(pos c s:Int)+2*(cK (aT c N) (pos c s):Int)=mv at HMV HX;clear hst hbs hes hcs0 hmv;rw[hsz2]at h2 HS hN2;go_wp2_with(go_at_call 113;refine(bV _ _).mono ?_;rintro e w' ⟨rfl,rfl⟩)
     refine HMV.out.mono ?_;rintro e w5 ⟨rfl,cc5,hw5⟩;have HP5:Hid (PW w w2 cb co L cap N c W w5 cs fs):=by rw[hw5];exact(HP4.out.drew hW C hT).alloc hW C hT _
     clear hw5
     obtain⟨vc5,vf5,hR5⟩:=HP5.out.own
     go_wp2_with fail
     refine(iR (W+1) W _ vc5 vf5 cs fs w5.heap.size 0 2 2 [(kk:Int),mv] (pos c m) (by omega) (hR5.alloc _) rfl (oT hR5 (kk:Int) mv) (by omega) (by omega) (by omega)).mono ?_
     rintro e w6 ⟨rfl,hR6,K6⟩;have HP6:Hid (PW w w2 cb co L cap N c W w6 (bL c N (pos c (m+1))) (bf c N (pos c (m+1)))):=by
      show PW w w2 cb co L cap N c W w6 (bL c N (pos c (m+1))) (bf c N (pos c (m+1)));rw[hN1.out,hN2.out,HX.out]
      exact(HP5.out.alloc hW C hT _).next hW C hT K6 (by simpa using hR6)
     clear hR6 K6 HP5 hR5 HP4 HMV;go_wp2;go_roundw
     case rel=>exact ⟨m+1,by omega,by rw[HS.out];simp,HP6.out⟩
     case measure=>simp [intOf];omega
    |false=>
     obtain⟨vc4,vf4,hR4⟩:=HP4.out.own
     by_cases hsz2:bp kk=2
     ·have hsh2:aX (kk*3)=2:=(by omega);have HX:Hid (jr c N m=[(kk:Int),c (pos c m+1)]):=by
       show jr c N m=_;unfold jr;rw[hszc,if_pos hsz2,hop,hlb,if_neg (by simp)]
      have HGV:Hid (Given w4 W vc4 vf4 cb (co+pos c m) [(kk:Int),c (pos c m+1)]):=kP hR4 (by
       intro j x hx;match j,hx with
       |0,hx=>simp at hx;rw[←hx];exact hck4
       |1,hx=>simp at hx;rw[←hx];exact(HP4.out.code.cell (pos c m+1) (by omega))
       |j+2,hx=>simp at hx) (by omega)
      have HR4:Hid (WR (W+1) W w4 vc4 vf4 cs fs):=hR4;rw[hsz2]at h2 HS hN2;have hi5:(pos c m:Int)+2≤(cap:Int):=(by omega);have hi6:(pos c m:Int)≤(pos c m:Int)+2:=(by omega);clear hR4;go_wp2_with(go_at_call 113;refine(bV _ _).mono ?_;rintro e w' ⟨rfl,rfl⟩)
      refine(iR (W+1) W _ vc4 vf4 cs fs cb (co+pos c m) 2 _ [(kk:Int),c (pos c m+1)] (pos c m) (by omega) HR4.out rfl HGV.out (by omega) (by omega) (by omega)).mono ?_
      rintro e w6 ⟨rfl,hR6,K6⟩;have HP6:Hid (PW w w2 cb co L cap N c W w6 (bL c N (pos c (m+1))) (bf c N (pos c (m+1)))):=by
       show PW w w2 cb co L cap N c W w6 (bL c N (pos c (m+1))) (bf c N (pos c (m+1)));rw[hN1.out,hN2.out,HX.out];exact HP4.out.next hW C hT K6 (by simpa using hR6)
      clear hR6 K6 HR4 HP4 HGV;go_wp2;go_roundw
      case rel=>exact ⟨m+1,by omega,by rw[HS.out];simp,HP6.out⟩
      case measure=>simp [intOf];omega
     ·have hsz1:bp kk=1:=by have:=(bS kk (by omega)).2.1;omega
      have hsh1:aX (kk*3)=1:=(by omega);have HX:Hid (jr c N m=[(kk:Int)]):=by
       show jr c N m=_;unfold jr;rw[hszc,if_neg hsz2,hop]
      have HGV:Hid (Given w4 W vc4 vf4 cb (co+pos c m) [(kk:Int)]):=kP hR4 (by
       intro j x hx;match j,hx with
       |0,hx=>simp at hx;rw[←hx];exact hck4
       |j+1,hx=>simp at hx) (by omega)
      have HR4:Hid (WR (W+1) W w4 vc4 vf4 cs fs):=hR4;rw[hsz1]at h2 HS hN2;have hi5:(pos c m:Int)+1≤(cap:Int):=(by omega);have hi6:(pos c m:Int)≤(pos c m:Int)+1:=(by omega);clear hR4;go_wp2_with(go_at_call 113;refine(bV _ _).mono ?_;rintro e w' ⟨rfl,rfl⟩)
      refine(iR (W+1) W _ vc4 vf4 cs fs cb (co+pos c m) 1 _ [(kk:Int)] (pos c m) (by omega) HR4.out rfl HGV.out (by omega) (by omega) (by omega)).mono ?_
      rintro e w6 ⟨rfl,hR6,K6⟩;have HP6:Hid (PW w w2 cb co L cap N c W w6 (bL c N (pos c (m+1))) (bf c N (pos c (m+1)))):=by
       show PW w w2 cb co L cap N c W w6 (bL c N (pos c (m+1))) (bf c N (pos c (m+1)));rw[hN1.out,hN2.out,HX.out];exact HP4.out.next hW C hT K6 (by simpa using hR6)
      clear hR6 K6 HR4 HP4 HGV;go_wp2;go_roundw
      case rel=>exact ⟨m+1,by omega,by rw[HS.out];simp,HP6.out⟩
      case measure=>simp [intOf];omega
   |true=>
    rw[hb]at ce hN1 hN2;rw[if_pos rfl]at hN1 hN2
    obtain⟨vc,vf,hR⟩:=hP.own
    have HP:Hid (PW w w2 cb co L cap N c W wr cs fs):=hP;have HR:Hid (WR (W+1) W wr vc vf cs fs):=hR;have hc80:(cn:Int)≤255:=(by omega);have hc0:(0:Int)≤(cn:Int):=(by omega);have hcne:((cn:Int) != -1)=true:=(by simp);clear hP hR hb hcn hcs hfs' hsucc A;go_wp2_with fail
    refine(Ix (W+1) W _ vc vf cs fs wr.heap.size 0 2 2 [20,(cn:Int)] (HR.out.alloc _) rfl (oT HR.out 20 (cn:Int)) (by omega) (by omega) (by omega)).mono ?_
    rintro e w3 ⟨rfl,hR3,K3⟩;have HP3:Hid (PW w w2 cb co L cap N c W w3 (cs++[20,(cn:Int)]) (fs++[-1,-1])):=(HP.out.alloc hW C hT _).next hW C hT K3 hR3;clear hR3 K3 HP HR ce hck
    obtain⟨cs3,hcs3⟩:∃l,cs++[20,(cn:Int)]=l:=⟨_,rfl⟩
    obtain⟨fs3,hfs3⟩:∃l,fs++[-1,-1]=l:=⟨_,rfl⟩
    have hle3:cs3.length≤242:=by rw[←hcs3];simp;omega
    have hle4:fs3.length≤242:=by rw[←hfs3];simp;omega
    rw[hcs3]at HP3;rw[hfs3]at HP3;rw[hcs3]at hN1;rw[hfs3]at hN2;clear hcs3 hfs3;have hck:=HP3.out.code.cell _ h1;rw[hop]at hck;have HTr:Hid (bK w3):=HP3.out.tab;go_wp2_with fail
    refine(ak kk (by omega) _ HTr.out).mono ?_
    rintro e w4 ⟨rfl,cc,hw4⟩;have HP4:Hid (PW w w2 cb co L cap N c W w4 cs3 fs3):=by rw[hw4];exact HP3.out.alloc hW C hT _
    clear hw4 HP3;have hck4:=HP4.out.code.cell _ h1;rw[hop]at hck4;have hcb4:cb<w4.heap.size:=HP4.out.code.blk
    cases hlb:aW (kk:Int)with
    |true=>
     obtain⟨s,hs,hst⟩:=V.jump m hlt (by rw[hop];exact hlb)
     have hsz2:=(fC hlb).1;have hsh2:=(fC hlb).2;have hck2:=HP4.out.code.cell (pos c m+1) (by omega);rw[←hst]at hck2;have hsL:=V.lt hs;have hi2:(pos c s:Int)<(L:Int):=(by omega);have hi3:(pos c m:Int)+1<(L:Int):=(by omega);have hi4:(pos c s:Int)≤255:=(by omega);have hbs:=V.leadsTo hlt (by rw[hop];exact hlb) hst.symm;have hes:cP (aT c N) L (pos c s)=(cK (aT c N) (pos c s):Int):=by unfold cP vG;rw[if_pos hsL,hbs,if_pos rfl]
     have hcs0:=gy (aT c N) (pos c s);have HMV:Hid (Calls Tryz.prog 115 #[.int .u8 (pos c s:Int),.slice (some ⟨w.heap.size,0,none⟩) L L] w4 fun e w'=>e=.returned (.int .u8 ((pos c s:Int)+2*(cK (aT c N) (pos c s):Int)))∧∃cc,w'=w4.drew.alloc (.cells cc 176)):=by
      have:=tK w4 (pos c s) w.heap.size L (cP (aT c N) L) HP4.out.row hsL (by omega) (by rw[hes];omega) (by rw[hes];omega) HP4.out.tab
      rw[hes]at this;exact this
     have HX:Hid (jr c N m=[(kk:Int),(pos c s:Int)+2*(cK (aT c N) (pos c s):Int)]):=by
      show jr c N m=_;unfold jr;rw[hszc,if_pos hsz2,hop,hlb,if_pos rfl,←hst,Int.toNat_natCast]
     generalize hmv:(pos c s:Int)+2*(cK (aT c N) (pos c s):Int)=mv at HMV HX;clear hst hbs hes hcs0 hmv;rw[hsz2]at h2 HS hN2;go_wp2_with(go_at_call 113;refine(bV _ _).mono ?_;rintro e w' ⟨rfl,rfl⟩)
     refine HMV.out.mono ?_;rintro e w5 ⟨rfl,cc5,hw5⟩;have HP5:Hid (PW w w2 cb co L cap N c W w5 cs3 fs3):=by rw[hw5];exact(HP4.out.drew hW C hT).alloc hW C hT _
     clear hw5
     obtain⟨vc5,vf5,hR5⟩:=HP5.out.own
     go_wp2_with fail
     refine(iR (W+1) W _ vc5 vf5 cs3 fs3 w5.heap.size 0 2 2 [(kk:Int),mv] (pos c m) (by omega) (hR5.alloc _) rfl (oT hR5 (kk:Int) mv) (by omega) (by omega) (by omega)).mono ?_
     rintro e w6 ⟨rfl,hR6,K6⟩;have HP6:Hid (PW w w2 cb co L cap N c W w6 (bL c N (pos c (m+1))) (bf c N (pos c (m+1)))):=by
      show PW w w2 cb co L cap N c W w6 (bL c N (pos c (m+1))) (bf c N (pos c (m+1)));rw[hN1.out,hN2.out,HX.out]
      exact(HP5.out.alloc hW C hT _).next hW C hT K6 (by simpa using hR6)
     clear hR6 K6 HP5 hR5 HP4 HMV;go_wp2;go_roundw
     case rel=>exact ⟨m+1,by omega,by rw[HS.out];simp,HP6.out⟩
     case measure=>simp [intOf];omega
    |false=>
     obtain⟨vc4,vf4,hR4⟩:=HP4.out.own
     by_cases hsz2:bp kk=2
     ·have hsh2:aX (kk*3)=2:=(by omega);have HX:Hid (jr c N m=[(kk:Int),c (pos c m+1)]):=by
       show jr c N m=_;unfold jr;rw[hszc,if_pos hsz2,hop,hlb,if_neg (by simp)]
      have HGV:Hid (Given w4 W vc4 vf4 cb (co+pos c m) [(kk:Int),c (pos c m+1)]):=kP hR4 (by
       intro j x hx;match j,hx with
       |0,hx=>simp at hx;rw[←hx];exact hck4
       |1,hx=>simp at hx;rw[←hx];exact(HP4.out.code.cell (pos c m+1) (by omega))
       |j+2,hx=>simp at hx) (by omega)
      have HR4:Hid (WR (W+1) W w4 vc4 vf4 cs3 fs3):=hR4;rw[hsz2]at h2 HS hN2;have hi5:(pos c m:Int)+2≤(cap:Int):=(by omega);have hi6:(pos c m:Int)≤(pos c m:Int)+2:=(by omega);clear hR4;go_wp2_with(go_at_call 113;refine(bV _ _).mono ?_;rintro e w' ⟨rfl,rfl⟩)
      refine(iR (W+1) W _ vc4 vf4 cs3 fs3 cb (co+pos c m) 2 _ [(kk:Int),c (pos c m+1)] (pos c m) (by omega) HR4.out rfl HGV.out (by omega) (by omega) (by omega)).mono ?_
      rintro e w6 ⟨rfl,hR6,K6⟩;have HP6:Hid (PW w w2 cb co L cap N c W w6 (bL c N (pos c (m+1))) (bf c N (pos c (m+1)))):=by
       show PW w w2 cb co L cap N c W w6 (bL c N (pos c (m+1))) (bf c N (pos c (m+1)));rw[hN1.out,hN2.out,HX.out];exact HP4.out.next hW C hT K6 (by simpa using hR6)
      clear hR6 K6 HR4 HP4 HGV;go_wp2;go_roundw
      case rel=>exact ⟨m+1,by omega,by rw[HS.out];simp,HP6.out⟩
      case measure=>simp [intOf];omega
     ·have hsz1:bp kk=1:=by have:=(bS kk (by omega)).2.1;omega
      have hsh1:aX (kk*3)=1:=(by omega);have HX:Hid (jr c N m=[(kk:Int)]):=by
       show jr c N m=_;unfold jr;rw[hszc,if_neg hsz2,hop]
      have HGV:Hid (Given w4 W vc4 vf4 cb (co+pos c m) [(kk:Int)]):=kP hR4 (by
       intro j x hx;match j,hx with
       |0,hx=>simp at hx;rw[←hx];exact hck4
       |j+1,hx=>simp at hx) (by omega)
      have HR4:Hid (WR (W+1) W w4 vc4 vf4 cs3 fs3):=hR4;rw[hsz1]at h2 HS hN2;have hi5:(pos c m:Int)+1≤(cap:Int):=(by omega);have hi6:(pos c m:Int)≤(pos c m:Int)+1:=(by omega);clear hR4;go_wp2_with(go_at_call 113;refine(bV _ _).mono ?_;rintro e w' ⟨rfl,rfl⟩)
      refine(iR (W+1) W _ vc4 vf4 cs3 fs3 cb (co+pos c m) 1 _ [(kk:Int)] (pos c m) (by omega) HR4.out rfl HGV.out (by omega) (by omega) (by omega)).mono ?_
      rintro e w6 ⟨rfl,hR6,K6⟩;have HP6:Hid (PW w w2 cb co L cap N c W w6 (bL c N (pos c (m+1))) (bf c N (pos c (m+1)))):=by
       show PW w w2 cb co L cap N c W w6 (bL c N (pos c (m+1))) (bf c N (pos c (m+1)));rw[hN1.out,hN2.out,HX.out];exact HP4.out.next hW C hT K6 (by simpa using hR6)
      clear hR6 K6 HR4 HP4 HGV;go_wp2;go_roundw
      case rel=>exact ⟨m+1,by omega,by rw[HS.out];simp,HP6.out⟩
      case measure=>simp [intOf];omega
  ·have e:m=N:=(by omega);subst e;rw[V.last]at hP⊢
   obtain⟨vc,vf,hR⟩:=hP.own
   have HP:=hP.low;have c0:=hR.c0;have c1:=hR.c1;have hLL:¬(L:Int)<(L:Int):=(by omega);have HR:Hid (WR (W+1) W wr vc vf (bL c m L) (bf c m L)):=hR;clear hP hR;go_wp2_with fail
   go_quiet(fail)
   go_wp2;go_ret2
   exact⟨W+1,W,vc,vf,by omega,⟨HR.out.c0,HR.out.c1,HR.out.thaw,HR.out.bI,HR.out.bR,HR.out.apart,HR.out.lt,HR.out.le⟩,rfl,⟨HP.os,HP.tape,HP.output,HP.size,HP.block⟩⟩
end Go.Proofs.YtmpgjkhchfcjlaaGreatDoor
