import Derived.Test.YtmpgjkhchfcjlaaGreatDoorM33
namespace Go.Proofs.YtmpgjkhchfcjlaaGreatDoor
open Go.RowKit
set_option maxRecDepth 100000
set_option maxHeartbeats 4000000
theorem kN {w:World}{B:Nat→Prop}{M:Nat}{L:Nat→Nat}(hb:Bk w B M L)(hLL:(L 4+4)*24≤140737488355328)(v:Value)(n:Nat)(xs:List Value)(hv:w.ownsRow 0 5 1 v n xs)(hn:n≤1000)(hvB:∀g,v.ownBlock=some g→¬B g∧3≤g):
  Calls Tryz.prog 27 #[.pointer (some ⟨M,0,none⟩),v] w (jh 0 B M L v w):=by
 obtain⟨F,X,h,hL⟩:=hb
 obtain⟨i,hi,hz0,hz1,hz2⟩:=bB (t:=5) (z:=some (.int .u8 0)) (s:=1) (b:=1) (by kernel_rfl)
 obtain⟨ib,hib,hzb0,hzb1,hzb2⟩:=bB (t:=39) (z:=some (.slice none 0 0)) (s:=1) (b:=24) (by kernel_rfl)
 obtain⟨ii,hii,hzi0,hzi1,hzi2⟩:=bB (t:=3) (z:=some (.int .i64 0)) (s:=1) (b:=8) (by kernel_rfl)
 have HV2:Hid (∀g,v.ownBlock=some g→¬B g∧g<w.heap.size∧3≤g):=fun g e=>⟨(hvB g e).1,aL hv e,(hvB g e).2⟩
 obtain⟨pv,capv,rfl⟩:=cT hv
 obtain⟨a4,cap4,c4⟩:=h.head 4 (by omega)
 have hlq:=h.len 0 (by omega);have hp:=hL 4;have hxl:=hv.1;have hML:=h.ob.lt;have HB:Hid (BB w B M F X∧∀r,(X r).length≤L r):=⟨h,hL⟩
 obtain⟨p,hpe⟩:∃p,(X 4).length=p:=⟨_,rfl⟩
 rw[hpe]at hlq c4 hp;have HP:Hid ((X 4).length=p∧(X 0).length=p):=⟨hpe,hlq⟩
 obtain⟨f,hf⟩:∃f,f=eB 0 p:=⟨_,rfl⟩
 have HFF:=hid hf
 obtain⟨D,hD⟩:∃D:Int→Int,D=fun x=>wh p x.toNat:=⟨_,rfl⟩
 have HF:Hid (∀j:Nat,f j=.int .u8 (D j)):=fun j=>by rw[hf,hD];rfl
 have HDG:Hid (∀(x:Int) (wy:World),0≤x→x≤2000→Calls Tryz.prog 18 #[.int .i64 (p:Int),.int .i64 x] wy fun e w'=>e=.returned (.int .u8 (D x))∧w'=wy):=fun x wy h0 h1=>by
  rw[hD]
  obtain⟨j,rfl⟩:∃j:Nat,x=j:=⟨x.toNat,by omega⟩
  exact sM p j (by omega) (by omega) wy
 clear hD;have HV0:=hid hv;clear h hL hv hvB hlq hpe hf;go_in;go_wp2_with fail
 go_loopw [5] (fun j wr=>∃k:Nat,k≤n∧j=.int .i64 k∧wr.ownsRow 0 5 1 (.slice pv n capv) n (gu f (k*1)++xs.drop (k*1))∧w.grownBy wr (Value.slice pv n capv).ownBlock) (fun j _=>n-(intOf j).toNat)
 case atStart=>exact ⟨0,by omega,rfl,HV0.out,⟨rfl,rfl,rfl,Nat.le_refl _,fun _ _ _=>rfl⟩⟩
 case round=>
  clear HV0
  obtain⟨k,hk,rfl,ho,hgr⟩:=hrel
  by_cases hlt:k<n
  ·obtain⟨g,cap,hfm⟩:=aB ho (by omega)
   simp only[Value.slice.injEq]at hfm
   obtain⟨rfl,_,rfl⟩:=hfm
   rw[Nat.mul_one]at ho
   obtain⟨s1,s2,s3,y,s4⟩:=pJ ho (by omega)
   rw[HF.out k]at s1 s2;have HN:Hid (_∧w.grownBy _ _):=And.intro s1 (World.grownBy.trans' hgr s2);have hi1:(k:Int)<(n:Int):=(by omega);clear ho hgr s1 s2;go_wp2_with(go_at_call 18;refine(HDG.out _ _ (by omega) (by omega)).mono ?_;rintro e w' ⟨rfl,rfl⟩)
   go_roundw
   case rel=>exact ⟨k+1,by omega,by go_num,by rw[Nat.mul_one];exact HN.out.1,HN.out.2⟩
   case measure=>simp [intOf];omega
  ·obtain rfl:k=n:=by omega
   have HA0:=hid (AP.start ho hxl hgr);have hsz:=hgr.size;have hnn:¬(k:Int)<(k:Int):=(by omega);clear ho hgr;have HFD:Hid (f (k*1+0)=.int .u8 (D k)∧f (k*1+1)=.int .u8 (D ((k:Int)+1))∧f (k*1+2)=.int .u8 (D ((k:Int)+2))):=⟨by rw[HF.out,Nat.mul_one,Nat.add_zero],by rw[HF.out,Nat.mul_one];rfl,by rw[HF.out,Nat.mul_one];rfl⟩;have hc1:gu (fun i=>f (k*1+i)) (1*1)=[.int .u8 (D k)]:=by show[f (k*1+0)]=_;rw[HFD.out.1]
   go_wp2_with(first|(go_at_call 18;refine(HDG.out _ _ (by omega) (by omega)).mono ?_;rintro e w' ⟨rfl,rfl⟩)|(at_builtin;refine cO rfl (.tmp 30) (.tmp 34) 39 rfl 5 i (.int .u8 0) 1 1 Tryz.underlying39 hi hz0 hz1 hz2 rfl (by decide) f _ k _ rfl (HA0.out.alloc _) ⟨_,0,none⟩ 1 1 rfl (fS hc1) (by rw[hc1];intro u hu;simp only[List.mem_cons,List.not_mem_nil,or_false]at hu;rcases hu with rfl<;>rfl) (by unfold maxLen;omega) (by omega) (by omega) ?_))
   intro g1 k1 w1 A1 z1;have HA1:=hid A1;clear A1 HA0 hc1;have hc2:gu (fun i=>f (k*1+i)) (2*1)=[.int .u8 (D k),.int .u8 (D ((k:Int)+1))]:=by show[f (k*1+0),f (k*1+1)]=_;rw[HFD.out.1,HFD.out.2.1]
   go_wp2_with(first|(go_at_call 18;refine(HDG.out _ _ (by omega) (by omega)).mono ?_;rintro e w' ⟨rfl,rfl⟩)|(at_builtin;refine cO rfl (.tmp 36) (.tmp 44) 39 rfl 5 i (.int .u8 0) 1 1 Tryz.underlying39 hi hz0 hz1 hz2 rfl (by decide) f _ k _ rfl (HA1.out.alloc _) ⟨_,0,none⟩ 2 2 rfl (fS hc2) (by rw[hc2];intro u hu;simp only[List.mem_cons,List.not_mem_nil,or_false]at hu;rcases hu with rfl|rfl<;>rfl) (by unfold maxLen;omega) (by omega) (by omega) ?_))
   intro g2 k2 w2 A2 z2;have HA2:=hid A2;clear A2 HA1 hc2;have hc3:gu (fun i=>f (k*1+i)) (3*1)=[.int .u8 (D k),.int .u8 (D ((k:Int)+1)),.int .u8 (D ((k:Int)+2))]:=by show[f (k*1+0),f (k*1+1),f (k*1+2)]=_;rw[HFD.out.1,HFD.out.2.1,HFD.out.2.2]
   go_wp2_with(first|(go_at_call 18;refine(HDG.out _ _ (by omega) (by omega)).mono ?_;rintro e w' ⟨rfl,rfl⟩)|(at_builtin;refine cO rfl (.tmp 46) (.tmp 58) 39 rfl 5 i (.int .u8 0) 1 1 Tryz.underlying39 hi hz0 hz1 hz2 rfl (by decide) f _ k _ rfl (HA2.out.alloc _) ⟨_,0,none⟩ 3 3 rfl (fS hc3) (by rw[hc3];intro u hu;simp only[List.mem_cons,List.not_mem_nil,or_false]at hu;rcases hu with rfl|rfl|rfl<;>rfl) (by unfold maxLen;omega) (by omega) (by omega) ?_))
   intro g3 k3 w3 A3 z3;have HA3:=hid A3;clear A3 HA2 hc3;have O3:=HB.out.1.mid HA3.out.grown (fun g e=>(HV2.out g e).1) (Sm.refl w3);have HO3:=hid O3;have cq:=O3.cell 0 (by decide);have rq:w3.ownsRow 0 39 1 (F 0) p (X 0):=by have:=O3.own 0 (eN (by omega));rw[HP.out.2]at this;exact this
   have HRQ:=hid rq;have hM3:=O3.lt
   obtain⟨aq,kq,eq⟩:=cT rq
   have HEQ:=hid eq;rw[eq]at cq HRQ;clear rq eq O3;go_wp2_with(at_builtin;refine wpList_append_own_at _ rfl (.tmp 64) (.tmp 69) 28 rfl 0 39 ib (.slice none 0 0) 1 24 Tryz.underlying28 hib hzb0 hzb1 hzb2 rfl (by decide) _ p _ rfl (HRQ.out.alloc _) ⟨_,0,none⟩ 4 4 [.slice pv k capv,.slice (some ⟨g1,0,none⟩) (k+1) k1,.slice (some ⟨g2,0,none⟩) (k+2) k2,.slice (some ⟨g3,0,none⟩) (k+3) k3] rfl rfl (cG _ _ _) ?c2 (by unfold maxLen;omega) (by omega) (by simp) ?_)
   case c2=>first|exact⟨rfl,rfl,rfl,rfl⟩|(intro u hu;simp at hu;rcases hu with rfl|rfl|rfl|rfl<;>rfl)
   intro v4 w4 ho4 hg4 _ hat4
   obtain⟨g4,k4,rfl⟩:=aB ho4 (by omega)
   rw[←HEQ.out,←World.size_alloc (o:=.cells #[.slice pv k capv,.slice (some ⟨g1,0,none⟩) (k+1) k1,.slice (some ⟨g2,0,none⟩) (k+2) k2,.slice (some ⟨g3,0,none⟩) (k+3) k3] 39)]at hat4;rw[←HEQ.out]at hg4
   obtain⟨c5,f5⟩:=(HO3.out.alloc _).got 0 (eN (by omega)) hg4
   rw[HEQ.out]at c5;have O5:=(HO3.out.alloc _).grow 0 (eN (by omega)) _ [.slice pv k capv,.slice (some ⟨g1,0,none⟩) (k+1) k1,.slice (some ⟨g2,0,none⟩) (k+2) k2,.slice (some ⟨g3,0,none⟩) (k+3) k3] 4 hg4 (by rw[HP.out.2];exact ho4) hat4;have H4:Hid (_∧_∧_):=And.intro hg4 (And.intro ho4 hat4);have hM4:=hg4.size;rw[World.size_alloc]at hM4;clear ho4 hg4 hat4;go_wp2_with fail
   have cm:=O5.cell 4 (by decide);have fm:=O5.thaw 4;have rm:(w4.setCell ⟨M,0,none⟩ (.slice (some ⟨g4,0,none⟩) (p+4) k4)).ownsRow 0 3 1 (F 4) p (X 4):=by
    have:=O5.own 4 (eN (by omega))
    rw[au _ _ (show(4:Nat)≠0 by omega),au _ _ (show(4:Nat)≠0 by omega),au _ _ (show(4:Nat)≠0 by omega),HP.out.1]at this;exact this
   rw[au _ _ (show(4:Nat)≠0 by omega)]at cm
   obtain⟨am,km,em⟩:=cT rm
   have HEM:=hid em;rw[em]at cm rm;have HRM:=hid rm;have HO5:=hid O5;have H6:Hid (∀(o:Obj) (w6:World),((w4.setCell ⟨M,0,none⟩ (.slice (some ⟨g4,0,none⟩) (p+4) k4)).drew.alloc o).grownBy w6 (Value.slice am p km).ownBlock→w6.cell? ⟨M,4,none⟩=some (.slice am p km)∧w6.frozen? ⟨M,4,none⟩=false):=fun o w6 hg6=>by
    have e6:=au F (.slice (some ⟨g4,0,none⟩) (p+4) k4) (show(4:Nat)≠0 by omega);rw[HEM.out]at e6
    have:=((HO5.out.sm (W:=(w4.setCell ⟨M,0,none⟩ (.slice (some ⟨g4,0,none⟩) (p+4) k4)).drew) ⟨rfl,rfl,rfl,rfl⟩).alloc o).got (w1:=w6) 4 (eN (by omega)) (by rw[e6];exact hg6)
    rw[e6]at this;exact this
   have HFIN:Hid (∀(o:Obj) (w6:World) (v6:Value),w6.ownsRow 0 3 1 v6 (p+4) (X 4++[.int .i64 ((p:Int)),.int .i64 ((p:Int)),.int .i64 ((p:Int)),.int .i64 ((p:Int))])→((w4.setCell ⟨M,0,none⟩ (.slice (some ⟨g4,0,none⟩) (p+4) k4)).drew.alloc o).grownBy w6 (Value.slice am p km).ownBlock→(v6.ownBlock=(Value.slice am p km).ownBlock∨v6.ownBlock=some ((w4.setCell ⟨M,0,none⟩ (.slice (some ⟨g4,0,none⟩) (p+4) k4)).drew.alloc o).heap.size)→jh 0 B M L (.slice pv k capv) w (.returned (.tuple #[])) (w6.setCell ⟨M,4,none⟩ v6)):=fun o w6 v6 r6 g6 a6=>by
    have A3:=HA3.out;rw[HFF.out,←HP.out.1]at A3;rw[←HEM.out]at g6 a6
    obtain⟨F',X',r1,r2,r3⟩:=HB.out.1.own 0 (by omega) (W4:=(w4.setCell ⟨M,0,none⟩ (.slice (some ⟨g4,0,none⟩) (p+4) k4)).drew) A3 HV2.out (Sm.refl w3) H4.out.1 (by rw[HP.out.2];exact H4.out.2.1) H4.out.2.2 ⟨rfl,rfl,rfl,rfl⟩ g6 (by rw[HP.out.1];exact r6) a6
    exact⟨rfl,r3,F',X',r1,fun r=>by
     have h1:=r2 r;have h2:=HB.out.2 r;unfold bump;by_cases c:r=0∨r=4+0
     ·rw[if_pos c]at h1⊢;exact Nat.le_trans h1 (Nat.add_le_add_right h2 4)
     ·rw[if_neg c]at h1⊢;exact Nat.le_trans h1 h2⟩
   have hM5:M<(w4.setCell ⟨M,0,none⟩ (.slice (some ⟨g4,0,none⟩) (p+4) k4)).heap.size:=by rw[World.size_setCell];omega
   clear O5 HO5 H4 HO3 HB HV2 HA3 rm;generalize w4.setCell ⟨M,0,none⟩ (.slice (some ⟨g4,0,none⟩) (p+4) k4)=w5 at*;go_region_law(refine fP rfl (.tmp 78) (.tmp 83) 32 rfl 0 3 ii (.int .i64 0) 1 8 Tryz.underlying32 hii hzi0 hzi1 hzi2 rfl (by decide) (.slice am p km) p (X 4) (by simp[Act.eval]) (HRM.out.alloc _) ⟨w5.heap.size,0,none⟩ 4 4 [.int .i64 ((p:Int)),.int .i64 ((p:Int)),.int .i64 ((p:Int)),.int .i64 ((p:Int))] (by simp[Act.eval]) rfl (cG _ _ _) (by intro u hu;simp at hu;subst hu;rfl) (by unfold maxLen;omega) (by omega) (by simp) ?_;intro v6 w6 ho6 hg6 hat6;obtain⟨g6,k6,rfl⟩:=aB ho6 (by omega);obtain⟨c6,f6⟩:=H6.out _ w6 hg6;have HALL:Hid _:=HFIN.out _ w6 _ ho6 hg6 hat6;clear ho6 hg6 hat6)
   all_goals
    go_wp2;go_end0
    exact⟨rfl,HALL.out.2⟩
theorem lJ {w:World}{B:Nat→Prop}{M:Nat}{L:Nat→Nat}(hb:Bk w B M L)(hLL:(L 5+4)*24≤140737488355328)(v:Value)(n:Nat)(xs:List Value)(hv:w.ownsRow 0 3 1 v n xs)(hn:n≤1000)(hvB:∀g,v.ownBlock=some g→¬B g∧3≤g):
  Calls Tryz.prog 30 #[.pointer (some ⟨M,0,none⟩),v] w (jh 1 B M L v w):=by
 obtain⟨F,X,h,hL⟩:=hb
 obtain⟨i,hi,hz0,hz1,hz2⟩:=bB (t:=3) (z:=some (.int .i64 0)) (s:=1) (b:=8) (by kernel_rfl)
 obtain⟨ib,hib,hzb0,hzb1,hzb2⟩:=bB (t:=32) (z:=some (.slice none 0 0)) (s:=1) (b:=24) (by kernel_rfl)
 obtain⟨ii,hii,hzi0,hzi1,hzi2⟩:=bB (t:=3) (z:=some (.int .i64 0)) (s:=1) (b:=8) (by kernel_rfl)
 have HV2:Hid (∀g,v.ownBlock=some g→¬B g∧g<w.heap.size∧3≤g):=fun g e=>⟨(hvB g e).1,aL hv e,(hvB g e).2⟩
 obtain⟨pv,capv,rfl⟩:=cT hv
 obtain⟨a4,cap4,c4⟩:=h.head 5 (by omega)
 have hlq:=h.len 1 (by omega);have hp:=hL 5;have hxl:=hv.1;have hML:=h.ob.lt;have HB:Hid (BB w B M F X∧∀r,(X r).length≤L r):=⟨h,hL⟩
 obtain⟨p,hpe⟩:∃p,(X 5).length=p:=⟨_,rfl⟩
 rw[hpe]at hlq c4 hp;have HP:Hid ((X 5).length=p∧(X 1).length=p):=⟨hpe,hlq⟩
 obtain⟨f,hf⟩:∃f,f=eB 1 p:=⟨_,rfl⟩
 have HFF:=hid hf
 obtain⟨z,hz⟩:∃z:Int,(-2:Int)-(p:Int)=z:=⟨_,rfl⟩
 have HZ:Hid (qZ 1 p=z):=hz;have HF:Hid (∀j,f j=.int .i64 z):=fun j=>by rw[hf,←hz];rfl
 have HV0:=hid hv;clear h hL hv hvB hlq hpe hf hz;go_in;go_wp2_with fail
 rw[show(-2:Int)-(p:Int)=z from HZ.out];go_loopw [5] (fun j wr=>∃k:Nat,k≤n∧j=.int .i64 k∧wr.ownsRow 0 3 1 (.slice pv n capv) n (gu f (k*1)++xs.drop (k*1))∧w.grownBy wr (Value.slice pv n capv).ownBlock) (fun j _=>n-(intOf j).toNat)
 case atStart=>exact ⟨0,by omega,rfl,HV0.out,⟨rfl,rfl,rfl,Nat.le_refl _,fun _ _ _=>rfl⟩⟩
 case round=>
  clear HV0
  obtain⟨k,hk,rfl,ho,hgr⟩:=hrel
  by_cases hlt:k<n
  ·obtain⟨g,cap,hfm⟩:=aB ho (by omega)
   simp only[Value.slice.injEq]at hfm
   obtain⟨rfl,_,rfl⟩:=hfm
   rw[Nat.mul_one]at ho
   obtain⟨s1,s2,s3,y,s4⟩:=pJ ho (by omega)
   rw[HF.out k]at s1 s2;have HN:Hid (_∧w.grownBy _ _):=And.intro s1 (World.grownBy.trans' hgr s2);have hi1:(k:Int)<(n:Int):=(by omega);clear ho hgr s1 s2;go_wp2_with fail
   go_roundw
   case rel=>exact ⟨k+1,by omega,by go_num,by rw[Nat.mul_one];exact HN.out.1,HN.out.2⟩
   case measure=>simp [intOf];omega
  ·obtain rfl:k=n:=by omega
   have HA0:=hid (AP.start ho hxl hgr);have hsz:=hgr.size;have hnn:¬(k:Int)<(k:Int):=(by omega);clear ho hgr;have hc1:gu (fun i=>f (k*1+i)) (1*1)=[.int .i64 z]:=by show[f (k*1+0)]=_;rw[HF.out]
   go_wp2_with(at_builtin;refine cO rfl (.tmp 26) (.tmp 28) 32 rfl 3 i (.int .i64 0) 1 8 Tryz.underlying32 hi hz0 hz1 hz2 rfl (by decide) f _ k _ rfl (HA0.out.alloc _) ⟨_,0,none⟩ 1 1 rfl (fS hc1) (by rw[hc1];intro u hu;simp only[List.mem_cons,List.not_mem_nil,or_false]at hu;rcases hu with rfl<;>rfl) (by unfold maxLen;omega) (by omega) (by omega) ?_)
   intro g1 k1 w1 A1 z1;have HA1:=hid A1;clear A1 HA0 hc1;have hc2:gu (fun i=>f (k*1+i)) (2*1)=[.int .i64 z,.int .i64 z]:=by show[f (k*1+0),f (k*1+1)]=_;rw[HF.out,HF.out]
   go_wp2_with(at_builtin;refine cO rfl (.tmp 30) (.tmp 33) 32 rfl 3 i (.int .i64 0) 1 8 Tryz.underlying32 hi hz0 hz1 hz2 rfl (by decide) f _ k _ rfl (HA1.out.alloc _) ⟨_,0,none⟩ 2 2 rfl (fS hc2) (by rw[hc2];intro u hu;simp only[List.mem_cons,List.not_mem_nil,or_false]at hu;rcases hu with rfl|rfl<;>rfl) (by unfold maxLen;omega) (by omega) (by omega) ?_)
   intro g2 k2 w2 A2 z2;have HA2:=hid A2;clear A2 HA1 hc2;have hc3:gu (fun i=>f (k*1+i)) (3*1)=[.int .i64 z,.int .i64 z,.int .i64 z]:=by show[f (k*1+0),f (k*1+1),f (k*1+2)]=_;rw[HF.out,HF.out,HF.out]
   go_wp2_with(at_builtin;refine cO rfl (.tmp 35) (.tmp 39) 32 rfl 3 i (.int .i64 0) 1 8 Tryz.underlying32 hi hz0 hz1 hz2 rfl (by decide) f _ k _ rfl (HA2.out.alloc _) ⟨_,0,none⟩ 3 3 rfl (fS hc3) (by rw[hc3];intro u hu;simp only[List.mem_cons,List.not_mem_nil,or_false]at hu;rcases hu with rfl|rfl|rfl<;>rfl) (by unfold maxLen;omega) (by omega) (by omega) ?_)
   intro g3 k3 w3 A3 z3;have HA3:=hid A3;clear A3 HA2 hc3;have O3:=HB.out.1.mid HA3.out.grown (fun g e=>(HV2.out g e).1) (Sm.refl w3);have HO3:=hid O3;have cq:=O3.cell 1 (by decide);have rq:w3.ownsRow 0 32 1 (F 1) p (X 1):=by have:=O3.own 1 (eN (by omega));rw[HP.out.2]at this;exact this
   have HRQ:=hid rq;have hM3:=O3.lt
   obtain⟨aq,kq,eq⟩:=cT rq
   have HEQ:=hid eq;rw[eq]at cq HRQ;clear rq eq O3;go_wp2_with(at_builtin;refine wpList_append_own_at _ rfl (.tmp 45) (.tmp 50) 29 rfl 0 32 ib (.slice none 0 0) 1 24 Tryz.underlying29 hib hzb0 hzb1 hzb2 rfl (by decide) _ p _ rfl (HRQ.out.alloc _) ⟨_,0,none⟩ 4 4 [.slice pv k capv,.slice (some ⟨g1,0,none⟩) (k+1) k1,.slice (some ⟨g2,0,none⟩) (k+2) k2,.slice (some ⟨g3,0,none⟩) (k+3) k3] rfl rfl (cG _ _ _) ?c2 (by unfold maxLen;omega) (by omega) (by simp) ?_)
   case c2=>first|exact⟨rfl,rfl,rfl,rfl⟩|(intro u hu;simp at hu;rcases hu with rfl|rfl|rfl|rfl<;>rfl)
   intro v4 w4 ho4 hg4 _ hat4
   obtain⟨g4,k4,rfl⟩:=aB ho4 (by omega)
   rw[←HEQ.out,←World.size_alloc (o:=.cells #[.slice pv k capv,.slice (some ⟨g1,0,none⟩) (k+1) k1,.slice (some ⟨g2,0,none⟩) (k+2) k2,.slice (some ⟨g3,0,none⟩) (k+3) k3] 32)]at hat4;rw[←HEQ.out]at hg4
   obtain⟨c5,f5⟩:=(HO3.out.alloc _).got 1 (eN (by omega)) hg4
   rw[HEQ.out]at c5;have O5:=(HO3.out.alloc _).grow 1 (eN (by omega)) _ [.slice pv k capv,.slice (some ⟨g1,0,none⟩) (k+1) k1,.slice (some ⟨g2,0,none⟩) (k+2) k2,.slice (some ⟨g3,0,none⟩) (k+3) k3] 4 hg4 (by rw[HP.out.2];exact ho4) hat4;have H4:Hid (_∧_∧_):=And.intro hg4 (And.intro ho4 hat4);have hM4:=hg4.size;rw[World.size_alloc]at hM4;clear ho4 hg4 hat4;go_wp2_with fail
   have cm:=O5.cell 5 (by decide);have fm:=O5.thaw 5;have rm:(w4.setCell ⟨M,1,none⟩ (.slice (some ⟨g4,0,none⟩) (p+4) k4)).ownsRow 0 3 1 (F 5) p (X 5):=by
    have:=O5.own 5 (eN (by omega))
    rw[au _ _ (show(5:Nat)≠1 by omega),au _ _ (show(5:Nat)≠1 by omega),au _ _ (show(5:Nat)≠1 by omega),HP.out.1]at this;exact this
   rw[au _ _ (show(5:Nat)≠1 by omega)]at cm
   obtain⟨am,km,em⟩:=cT rm
   have HEM:=hid em;rw[em]at cm rm;have HRM:=hid rm;have HO5:=hid O5;have H6:Hid (∀(o:Obj) (w6:World),((w4.setCell ⟨M,1,none⟩ (.slice (some ⟨g4,0,none⟩) (p+4) k4)).drew.alloc o).grownBy w6 (Value.slice am p km).ownBlock→w6.cell? ⟨M,5,none⟩=some (.slice am p km)∧w6.frozen? ⟨M,5,none⟩=false):=fun o w6 hg6=>by
    have e6:=au F (.slice (some ⟨g4,0,none⟩) (p+4) k4) (show(5:Nat)≠1 by omega);rw[HEM.out]at e6
    have:=((HO5.out.sm (W:=(w4.setCell ⟨M,1,none⟩ (.slice (some ⟨g4,0,none⟩) (p+4) k4)).drew) ⟨rfl,rfl,rfl,rfl⟩).alloc o).got (w1:=w6) 5 (eN (by omega)) (by rw[e6];exact hg6)
    rw[e6]at this;exact this
   have HFIN:Hid (∀(o:Obj) (w6:World) (v6:Value),w6.ownsRow 0 3 1 v6 (p+4) (X 5++[.int .i64 (z),.int .i64 (z),.int .i64 (z),.int .i64 (z)])→((w4.setCell ⟨M,1,none⟩ (.slice (some ⟨g4,0,none⟩) (p+4) k4)).drew.alloc o).grownBy w6 (Value.slice am p km).ownBlock→(v6.ownBlock=(Value.slice am p km).ownBlock∨v6.ownBlock=some ((w4.setCell ⟨M,1,none⟩ (.slice (some ⟨g4,0,none⟩) (p+4) k4)).drew.alloc o).heap.size)→jh 1 B M L (.slice pv k capv) w (.returned (.tuple #[])) (w6.setCell ⟨M,5,none⟩ v6)):=fun o w6 v6 r6 g6 a6=>by
    have A3:=HA3.out;rw[HFF.out,←HP.out.1]at A3;rw[←HEM.out]at g6 a6
    obtain⟨F',X',r1,r2,r3⟩:=HB.out.1.own 1 (by omega) (W4:=(w4.setCell ⟨M,1,none⟩ (.slice (some ⟨g4,0,none⟩) (p+4) k4)).drew) A3 HV2.out (Sm.refl w3) H4.out.1 (by rw[HP.out.2];exact H4.out.2.1) H4.out.2.2 ⟨rfl,rfl,rfl,rfl⟩ g6 (by rw[HP.out.1,HZ.out];exact r6) a6
    exact⟨rfl,r3,F',X',r1,fun r=>by
     have h1:=r2 r;have h2:=HB.out.2 r;unfold bump;by_cases c:r=1∨r=4+1
     ·rw[if_pos c]at h1⊢;exact Nat.le_trans h1 (Nat.add_le_add_right h2 4)
     ·rw[if_neg c]at h1⊢;exact Nat.le_trans h1 h2⟩
   have hM5:M<(w4.setCell ⟨M,1,none⟩ (.slice (some ⟨g4,0,none⟩) (p+4) k4)).heap.size:=by rw[World.size_setCell];omega
   clear O5 HO5 H4 HO3 HB HV2 HA3 rm;generalize w4.setCell ⟨M,1,none⟩ (.slice (some ⟨g4,0,none⟩) (p+4) k4)=w5 at*;go_region_law(refine fP rfl (.tmp 59) (.tmp 64) 32 rfl 0 3 ii (.int .i64 0) 1 8 Tryz.underlying32 hii hzi0 hzi1 hzi2 rfl (by decide) (.slice am p km) p (X 5) (by simp[Act.eval]) (HRM.out.alloc _) ⟨w5.heap.size,0,none⟩ 4 4 [.int .i64 (z),.int .i64 (z),.int .i64 (z),.int .i64 (z)] (by simp[Act.eval]) rfl (cG _ _ _) (by intro u hu;simp at hu;subst hu;rfl) (by unfold maxLen;omega) (by omega) (by simp) ?_;intro v6 w6 ho6 hg6 hat6;obtain⟨g6,k6,rfl⟩:=aB ho6 (by omega);obtain⟨c6,f6⟩:=H6.out _ w6 hg6;have HALL:Hid _:=HFIN.out _ w6 _ ho6 hg6 hat6;clear ho6 hg6 hat6)
   all_goals
    go_wp2;go_end0
    exact⟨rfl,HALL.out.2⟩
theorem rO {w:World}{B:Nat→Prop}{M:Nat}{L:Nat→Nat}(hb:Bk w B M L)(hLL:(L 7+4)*24≤140737488355328)(v:Value)(n:Nat)(xs:List Value)(hv:w.ownsRow 0 67 3 v n xs)(hn:n≤200000)(hvB:∀g,v.ownBlock=some g→¬B g∧3≤g):
  Calls Tryz.prog 54 #[.pointer (some ⟨M,0,none⟩),v] w (jh 3 B M L v w):=by
 obtain⟨F,X,h,hL⟩:=hb
 obtain⟨i,hi,hz0,hz1,hz2⟩:=bB (t:=67) (z:=some (.agg #[.string ⟨#[]⟩,.int .i64 0,.int .i64 0])) (s:=3) (b:=32) (by kernel_rfl)
 obtain⟨ib,hib,hzb0,hzb1,hzb2⟩:=bB (t:=57) (z:=some (.slice none 0 0)) (s:=1) (b:=24) (by kernel_rfl)
 obtain⟨ii,hii,hzi0,hzi1,hzi2⟩:=bB (t:=3) (z:=some (.int .i64 0)) (s:=1) (b:=8) (by kernel_rfl)
 have HV2:Hid (∀g,v.ownBlock=some g→¬B g∧g<w.heap.size∧3≤g):=fun g e=>⟨(hvB g e).1,aL hv e,(hvB g e).2⟩
 obtain⟨pv,capv,rfl⟩:=cT hv
 obtain⟨a4,cap4,c4⟩:=h.head 7 (by omega)
 have hlq:=h.len 3 (by omega);have hp:=hL 7;have hxl:=hv.1;have hML:=h.ob.lt;have HB:Hid (BB w B M F X∧∀r,(X r).length≤L r):=⟨h,hL⟩
 obtain⟨p,hpe⟩:∃p,(X 7).length=p:=⟨_,rfl⟩
 rw[hpe]at hlq c4 hp;have HP:Hid ((X 7).length=p∧(X 3).length=p):=⟨hpe,hlq⟩
 obtain⟨f,hf⟩:∃f,f=eB 3 p:=⟨_,rfl⟩
 have HFF:=hid hf
 obtain⟨z,hz⟩:∃z:Int,(-2:Int)-(p:Int)=z:=⟨_,rfl⟩
 have HZ:Hid (qZ 3 p=z):=hz;have HF:Hid (∀j,f (j*3)=.string ⟨#[]⟩∧f (j*3+1)=.int .i64 z∧f (j*3+2)=.int .i64 z):=fun j=>by
  have hz':=hz;rw[hf,←hz'];unfold eB;simp only[if_neg (show ¬(3:Nat)=0 by decide),if_neg (show ¬(3:Nat)=1 by decide),if_neg (show ¬(3:Nat)=2 by decide),if_true]
  exact⟨if_pos (by omega),if_neg (by omega),if_neg (by omega)⟩
 have HV0:=hid hv;clear h hL hv hvB hlq hpe hf hz;go_in;go_wp2_with fail
 rw[show(-2:Int)-(p:Int)=z from HZ.out];have BX:Below w.heap.size w (w.alloc (.cells #[.string ⟨#[]⟩,.int .i64 z,.int .i64 z] 67)):=(Below.refl _ _).alloc (Nat.le_refl _) _;have hhx:=heap_alloc_new w (.cells #[.string ⟨#[]⟩,.int .i64 z,.int .i64 z] 67);have x0:(w.alloc (.cells #[.string ⟨#[]⟩,.int .i64 z,.int .i64 z] 67)).cell? ⟨w.heap.size,0,none⟩=some (.string ⟨#[]⟩):=cell_of_row _ _ _ _ _ _ hhx;have x1:(w.alloc (.cells #[.string ⟨#[]⟩,.int .i64 z,.int .i64 z] 67)).cell? ⟨w.heap.size,1,none⟩=some (.int .i64 z):=cell_of_row _ _ _ _ _ _ hhx;have x2:(w.alloc (.cells #[.string ⟨#[]⟩,.int .i64 z,.int .i64 z] 67)).cell? ⟨w.heap.size,2,none⟩=some (.int .i64 z):=cell_of_row _ _ _ _ _ _ hhx;have hxs:w.heap.size<(w.alloc (.cells #[.string ⟨#[]⟩,.int .i64 z,.int .i64 z] 67)).heap.size:=by simp
 generalize(w.alloc (.cells #[.string ⟨#[]⟩,.int .i64 z,.int .i64 z] 67))=wx at*
 have HGX:Hid (∀wr,wx.grownBy wr (Value.slice pv n capv).ownBlock→wr.cell? ⟨w.heap.size,0,none⟩=some (.string ⟨#[]⟩)∧wr.cell? ⟨w.heap.size,1,none⟩=some (.int .i64 z)∧wr.cell? ⟨w.heap.size,2,none⟩=some (.int .i64 z)):=fun wr hg=>by
  have ne:some w.heap.size≠(Value.slice pv n capv).ownBlock:=fun c=>by have:=(HV2.out _ c.symm).2.1;omega
  exact⟨hg.cell (a:=⟨w.heap.size,0,none⟩) x0 ne,hg.cell (a:=⟨w.heap.size,1,none⟩) x1 ne,hg.cell (a:=⟨w.heap.size,2,none⟩) x2 ne⟩
 have HLF:Hid (∀e w',jh 3 B M L (.slice pv n capv) wx e w'→jh 3 B M L (.slice pv n capv) w e w'):=fun e w' o=>o.lift BX (fun k hk=>hk.elim (fun c=>⟨HB.out.1.lt k c,HB.out.1.low k c⟩) (fun c=>(HV2.out k c).2)) HB.out.1.three
 have HB2:Hid (BB wx B M F X∧∀r,(X r).length≤L r):=⟨HB.out.1.keep BX.size (fun k hk=>BX.block k (HB.out.1.lt k hk)) (fun _ c=>c) (fun k hk=>Nat.lt_of_lt_of_le (HB.out.1.lt k hk) BX.size) HB.out.1.low,HB.out.2⟩;have HV3:Hid (∀g,(Value.slice pv n capv).ownBlock=some g→¬B g∧g<wx.heap.size∧3≤g):=fun g e=>⟨(HV2.out g e).1,by have:=(HV2.out g e).2.1;omega,(HV2.out g e).2.2⟩
 have HV1:=hid (ay HV0.out (fun b hb=>BX.block b (HV2.out b hb).2.1));clear HV0 HB HV2 x0 x1 x2 hhx BX c4;have HV0:=HV1;have HB:=HB2;have HV2:=HV3;clear HV1 HB2 HV3;go_loopw [6] (fun j wr=>∃k:Nat,k≤n∧j=.int .i64 k∧wr.ownsRow 0 67 3 (.slice pv n capv) n (gu f (k*3)++xs.drop (k*3))∧wx.grownBy wr (Value.slice pv n capv).ownBlock) (fun j _=>n-(intOf j).toNat)
 case atStart=>exact ⟨0,by omega,rfl,HV0.out,⟨rfl,rfl,rfl,Nat.le_refl _,fun _ _ _=>rfl⟩⟩
 case round=>
  clear HV0
  obtain⟨k,hk,rfl,ho,hgr⟩:=hrel
  by_cases hlt:k<n
  ·obtain⟨g,cap,hfm⟩:=aB ho (by omega)
   simp only[Value.slice.injEq]at hfm
   obtain⟨rfl,_,rfl⟩:=hfm
   obtain⟨s1,s2,s3,y1,s4⟩:=pJ ho (by omega)
   obtain⟨t1,t2,t3,y2,t4⟩:=pJ s1 (by omega)
   obtain⟨u1,u2,u3,y3,u4⟩:=pJ t1 (by omega)
   have hgg:=World.grownBy.trans' (World.grownBy.trans' (World.grownBy.trans' hgr s2) t2) u2;rw[(HF.out k).1]at s1 s2 t1 t2 t3 t4 u1 u2 u3 u4 hgg;rw[(HF.out k).2.1]at t1 t2 u1 u2 u3 u4 hgg;rw[(HF.out k).2.2]at u1 u2 hgg;have b2:=(World.cell?_setCell_other wr ⟨g,k*3,none⟩ ⟨g,k*3+1,none⟩ (.string ⟨#[]⟩) (by simp)).symm.trans t4;have b3:=((World.cell?_setCell_other wr ⟨g,k*3,none⟩ ⟨g,k*3+2,none⟩ (.string ⟨#[]⟩) (by simp)).symm.trans (World.cell?_setCell_other _ ⟨g,k*3+1,none⟩ ⟨g,k*3+1+1,none⟩ (.int .i64 z) (by simp)).symm).trans u4;have f2:wr.frozen? ⟨g,k*3+1,none⟩=false:=(World.frozen?_setCell _ _ _ _).symm.trans t3;have f3:wr.frozen? ⟨g,k*3+2,none⟩=false:=((World.frozen?_setCell _ _ _ _).symm.trans (World.frozen?_setCell _ _ _ _).symm).trans u3
   obtain⟨x0,x1,x2⟩:=HGX.out wr hgr
   have HN:Hid (_∧wx.grownBy _ _):=And.intro u1 hgg;have hi1:(k:Int)<(n:Int):=(by omega);clear ho hgr s1 s2 t1 t2 u1 u2 hgg t3 t4 u3 u4;go_wp2_with fail
   go_roundw
   case rel=>exact ⟨k+1,by omega,by go_num,by rw[show(k+1)*3=k*3+1+1+1 by omega];exact HN.out.1,HN.out.2⟩
   case measure=>simp [intOf];omega
  ·obtain rfl:k=n:=by omega
   have HA0:=hid (AP.start ho hxl hgr);have hsz:=hgr.size;have hnn:¬(k:Int)<(k:Int):=(by omega);clear ho hgr
   obtain⟨x0,x1,x2⟩:=HGX.out _ HA0.out.grown
   have hc1:gu (fun i=>f (k*3+i)) (1*3)=[.string ⟨#[]⟩,.int .i64 z,.int .i64 z]:=by show[f (k*3),f (k*3+1),f (k*3+2)]=_;rw[(HF.out k).1,(HF.out k).2.1,(HF.out k).2.2]
   go_wp2_with(at_builtin;refine cO rfl (.tmp 30) (.tmp 32) 57 rfl 67 i (.agg #[.string ⟨#[]⟩,.int .i64 0,.int .i64 0]) 3 32 Tryz.underlying57 hi hz0 hz1 hz2 rfl (by decide) f _ k _ rfl (HA0.out.alloc _) ⟨_,0,none⟩ 1 1 rfl (fS hc1) (by rw[hc1];intro u hu;simp only[List.mem_cons,List.not_mem_nil,or_false]at hu;rcases hu with rfl|rfl|rfl<;>rfl) (by unfold maxLen;omega) (by omega) (by omega) ?_)
   intro g1 k1 w1 A1 z1;have HA1:=hid A1;clear A1 HA0 hc1 x0 x1 x2
   obtain⟨x0,x1,x2⟩:=HGX.out _ HA1.out.grown
   have hc2:gu (fun i=>f (k*3+i)) (2*3)=[.string ⟨#[]⟩,.int .i64 z,.int .i64 z,.string ⟨#[]⟩,.int .i64 z,.int .i64 z]:=by show[f (k*3),f (k*3+1),f (k*3+2),f (k*3+3),f (k*3+4),f (k*3+5)]=_;rw[show k*3+3=(k+1)*3 by omega,show k*3+4=(k+1)*3+1 by omega,show k*3+5=(k+1)*3+2 by omega,(HF.out k).1,(HF.out k).2.1,(HF.out k).2.2,(HF.out (k+1)).1,(HF.out (k+1)).2.1,(HF.out (k+1)).2.2]
   go_wp2_with(at_builtin;refine cO rfl (.tmp 34) (.tmp 37) 57 rfl 67 i (.agg #[.string ⟨#[]⟩,.int .i64 0,.int .i64 0]) 3 32 Tryz.underlying57 hi hz0 hz1 hz2 rfl (by decide) f _ k _ rfl (HA1.out.alloc _) ⟨_,0,none⟩ 2 2 rfl (fS hc2) (by rw[hc2];intro u hu;simp only[List.mem_cons,List.not_mem_nil,or_false]at hu;rcases hu with rfl|rfl|rfl|rfl|rfl|rfl<;>rfl) (by unfold maxLen;omega) (by omega) (by omega) ?_)
   intro g2 k2 w2 A2 z2;have HA2:=hid A2;clear A2 HA1 hc2 x0 x1 x2
   obtain⟨x0,x1,x2⟩:=HGX.out _ HA2.out.grown
   have hc3:gu (fun i=>f (k*3+i)) (3*3)=[.string ⟨#[]⟩,.int .i64 z,.int .i64 z,.string ⟨#[]⟩,.int .i64 z,.int .i64 z,.string ⟨#[]⟩,.int .i64 z,.int .i64 z]:=by show[f (k*3),f (k*3+1),f (k*3+2),f (k*3+3),f (k*3+4),f (k*3+5),f (k*3+6),f (k*3+7),f (k*3+8)]=_;rw[show k*3+3=(k+1)*3 by omega,show k*3+4=(k+1)*3+1 by omega,show k*3+5=(k+1)*3+2 by omega,show k*3+6=(k+2)*3 by omega,show k*3+7=(k+2)*3+1 by omega,show k*3+8=(k+2)*3+2 by omega,(HF.out k).1,(HF.out k).2.1,(HF.out k).2.2,(HF.out (k+1)).1,(HF.out (k+1)).2.1,(HF.out (k+1)).2.2,(HF.out (k+2)).1,(HF.out (k+2)).2.1,(HF.out (k+2)).2.2]
   go_wp2_with(at_builtin;refine cO rfl (.tmp 39) (.tmp 43) 57 rfl 67 i (.agg #[.string ⟨#[]⟩,.int .i64 0,.int .i64 0]) 3 32 Tryz.underlying57 hi hz0 hz1 hz2 rfl (by decide) f _ k _ rfl (HA2.out.alloc _) ⟨_,0,none⟩ 3 3 rfl (fS hc3) (by rw[hc3];intro u hu;simp only[List.mem_cons,List.not_mem_nil,or_false]at hu;rcases hu with rfl|rfl|rfl|rfl|rfl|rfl|rfl|rfl|rfl<;>rfl) (by unfold maxLen;omega) (by omega) (by omega) ?_)
   intro g3 k3 w3 A3 z3;have HA3:=hid A3;clear A3 HA2 hc3 x0 x1 x2;have O3:=HB.out.1.mid HA3.out.grown (fun g e=>(HV2.out g e).1) (Sm.refl w3);have HO3:=hid O3;have cq:=O3.cell 3 (by decide);have rq:w3.ownsRow 0 57 1 (F 3) p (X 3):=by have:=O3.own 3 (eN (by omega));rw[HP.out.2]at this;exact this
   have HRQ:=hid rq;have hM3:=O3.lt
   obtain⟨aq,kq,eq⟩:=cT rq
   have HEQ:=hid eq;rw[eq]at cq HRQ;clear rq eq O3;go_wp2_with(at_builtin;refine wpList_append_own_at _ rfl (.tmp 49) (.tmp 54) 31 rfl 0 57 ib (.slice none 0 0) 1 24 Tryz.underlying31 hib hzb0 hzb1 hzb2 rfl (by decide) _ p _ rfl (HRQ.out.alloc _) ⟨_,0,none⟩ 4 4 [.slice pv k capv,.slice (some ⟨g1,0,none⟩) (k+1) k1,.slice (some ⟨g2,0,none⟩) (k+2) k2,.slice (some ⟨g3,0,none⟩) (k+3) k3] rfl rfl (cG _ _ _) ?c2 (by unfold maxLen;omega) (by omega) (by simp) ?_)
   case c2=>first|exact⟨rfl,rfl,rfl,rfl⟩|(intro u hu;simp at hu;rcases hu with rfl|rfl|rfl|rfl<;>rfl)
   intro v4 w4 ho4 hg4 _ hat4
   obtain⟨g4,k4,rfl⟩:=aB ho4 (by omega)
   rw[←HEQ.out,←World.size_alloc (o:=.cells #[.slice pv k capv,.slice (some ⟨g1,0,none⟩) (k+1) k1,.slice (some ⟨g2,0,none⟩) (k+2) k2,.slice (some ⟨g3,0,none⟩) (k+3) k3] 57)]at hat4;rw[←HEQ.out]at hg4
   obtain⟨c5,f5⟩:=(HO3.out.alloc _).got 3 (eN (by omega)) hg4
   rw[HEQ.out]at c5;have O5:=(HO3.out.alloc _).grow 3 (eN (by omega)) _ [.slice pv k capv,.slice (some ⟨g1,0,none⟩) (k+1) k1,.slice (some ⟨g2,0,none⟩) (k+2) k2,.slice (some ⟨g3,0,none⟩) (k+3) k3] 4 hg4 (by rw[HP.out.2];exact ho4) hat4;have H4:Hid (_∧_∧_):=And.intro hg4 (And.intro ho4 hat4);have hM4:=hg4.size;rw[World.size_alloc]at hM4;clear ho4 hg4 hat4;go_wp2_with fail
   have cm:=O5.cell 7 (by decide);have fm:=O5.thaw 7;have rm:(w4.setCell ⟨M,3,none⟩ (.slice (some ⟨g4,0,none⟩) (p+4) k4)).ownsRow 0 3 1 (F 7) p (X 7):=by
    have:=O5.own 7 (eN (by omega))
    rw[au _ _ (show(7:Nat)≠3 by omega),au _ _ (show(7:Nat)≠3 by omega),au _ _ (show(7:Nat)≠3 by omega),HP.out.1]at this;exact this
   rw[au _ _ (show(7:Nat)≠3 by omega)]at cm
   obtain⟨am,km,em⟩:=cT rm
   have HEM:=hid em;rw[em]at cm rm;have HRM:=hid rm;have HO5:=hid O5;have H6:Hid (∀(o:Obj) (w6:World),((w4.setCell ⟨M,3,none⟩ (.slice (some ⟨g4,0,none⟩) (p+4) k4)).drew.alloc o).grownBy w6 (Value.slice am p km).ownBlock→w6.cell? ⟨M,7,none⟩=some (.slice am p km)∧w6.frozen? ⟨M,7,none⟩=false):=fun o w6 hg6=>by
    have e6:=au F (.slice (some ⟨g4,0,none⟩) (p+4) k4) (show(7:Nat)≠3 by omega);rw[HEM.out]at e6
    have:=((HO5.out.sm (W:=(w4.setCell ⟨M,3,none⟩ (.slice (some ⟨g4,0,none⟩) (p+4) k4)).drew) ⟨rfl,rfl,rfl,rfl⟩).alloc o).got (w1:=w6) 7 (eN (by omega)) (by rw[e6];exact hg6)
    rw[e6]at this;exact this
   have HFIN:Hid (∀(o:Obj) (w6:World) (v6:Value),w6.ownsRow 0 3 1 v6 (p+4) (X 7++[.int .i64 (z),.int .i64 (z),.int .i64 (z),.int .i64 (z)])→((w4.setCell ⟨M,3,none⟩ (.slice (some ⟨g4,0,none⟩) (p+4) k4)).drew.alloc o).grownBy w6 (Value.slice am p km).ownBlock→(v6.ownBlock=(Value.slice am p km).ownBlock∨v6.ownBlock=some ((w4.setCell ⟨M,3,none⟩ (.slice (some ⟨g4,0,none⟩) (p+4) k4)).drew.alloc o).heap.size)→jh 3 B M L (.slice pv k capv) wx (.returned (.tuple #[])) (w6.setCell ⟨M,7,none⟩ v6)):=fun o w6 v6 r6 g6 a6=>by
    have A3:=HA3.out;rw[HFF.out,←HP.out.1]at A3;rw[←HEM.out]at g6 a6
    obtain⟨F',X',r1,r2,r3⟩:=HB.out.1.own 3 (by omega) (W4:=(w4.setCell ⟨M,3,none⟩ (.slice (some ⟨g4,0,none⟩) (p+4) k4)).drew) A3 HV2.out (Sm.refl w3) H4.out.1 (by rw[HP.out.2];exact H4.out.2.1) H4.out.2.2 ⟨rfl,rfl,rfl,rfl⟩ g6 (by rw[HP.out.1,HZ.out];exact r6) a6
    exact⟨rfl,r3,F',X',r1,fun r=>by
     have h1:=r2 r;have h2:=HB.out.2 r;unfold bump;by_cases c:r=3∨r=4+3
     ·rw[if_pos c]at h1⊢;exact Nat.le_trans h1 (Nat.add_le_add_right h2 4)
     ·rw[if_neg c]at h1⊢;exact Nat.le_trans h1 h2⟩
   have hM5:M<(w4.setCell ⟨M,3,none⟩ (.slice (some ⟨g4,0,none⟩) (p+4) k4)).heap.size:=by rw[World.size_setCell];omega
   clear O5 HO5 H4 HO3 HB HV2 HA3 rm;generalize w4.setCell ⟨M,3,none⟩ (.slice (some ⟨g4,0,none⟩) (p+4) k4)=w5 at*;go_region_law(refine fP rfl (.tmp 63) (.tmp 68) 32 rfl 0 3 ii (.int .i64 0) 1 8 Tryz.underlying32 hii hzi0 hzi1 hzi2 rfl (by decide) (.slice am p km) p (X 7) (by simp[Act.eval]) (HRM.out.alloc _) ⟨w5.heap.size,0,none⟩ 4 4 [.int .i64 (z),.int .i64 (z),.int .i64 (z),.int .i64 (z)] (by simp[Act.eval]) rfl (cG _ _ _) (by intro u hu;simp at hu;subst hu;rfl) (by unfold maxLen;omega) (by omega) (by simp) ?_;intro v6 w6 ho6 hg6 hat6;obtain⟨g6,k6,rfl⟩:=aB ho6 (by omega);obtain⟨c6,f6⟩:=H6.out _ w6 hg6;have HALL:Hid _:=HFIN.out _ w6 _ ho6 hg6 hat6;clear ho6 hg6 hat6)
   all_goals
    go_wp2;go_end0
    exact HLF.out _ _ ⟨rfl,HALL.out.2⟩
end Go.Proofs.YtmpgjkhchfcjlaaGreatDoor
