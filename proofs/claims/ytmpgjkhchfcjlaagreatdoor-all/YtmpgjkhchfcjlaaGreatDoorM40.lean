import Derived.Test.YtmpgjkhchfcjlaaGreatDoorM33
namespace Go.Proofs.YtmpgjkhchfcjlaaGreatDoor
open Go.RowKit
set_option maxRecDepth 100000
set_option maxHeartbeats 4000000
theorem uW {w:World}{B:Nat→Prop}{M:Nat}{L:Nat→Nat}(hb:Bk w B M L)(hLL:(L 6+4)*24≤140737488355328)(v:Value)(n:Nat)(xs:List Value)(hv:w.ownsRow 0 9 1 v n xs)(hn:n≤1000)(hvB:∀g,v.ownBlock=some g→¬B g∧3≤g):
  Calls Tryz.prog 51 #[.pointer (some ⟨M,0,none⟩),v] w (jh 2 B M L v w):=by
 obtain⟨F,X,h,hL⟩:=hb
 obtain⟨i,hi,hz0,hz1,hz2⟩:=bB (t:=9) (z:=some (.string ⟨#[]⟩)) (s:=1) (b:=16) (by kernel_rfl)
 obtain⟨ib,hib,hzb0,hzb1,hzb2⟩:=bB (t:=41) (z:=some (.slice none 0 0)) (s:=1) (b:=24) (by kernel_rfl)
 obtain⟨ii,hii,hzi0,hzi1,hzi2⟩:=bB (t:=3) (z:=some (.int .i64 0)) (s:=1) (b:=8) (by kernel_rfl)
 have HV2:Hid (∀g,v.ownBlock=some g→¬B g∧g<w.heap.size∧3≤g):=fun g e=>⟨(hvB g e).1,aL hv e,(hvB g e).2⟩
 obtain⟨pv,capv,rfl⟩:=cT hv
 obtain⟨a4,cap4,c4⟩:=h.head 6 (by omega)
 have hlq:=h.len 2 (by omega);have hp:=hL 6;have hxl:=hv.1;have hML:=h.ob.lt;have HB:Hid (BB w B M F X∧∀r,(X r).length≤L r):=⟨h,hL⟩
 obtain⟨p,hpe⟩:∃p,(X 6).length=p:=⟨_,rfl⟩
 rw[hpe]at hlq c4 hp;have HP:Hid ((X 6).length=p∧(X 2).length=p):=⟨hpe,hlq⟩
 obtain⟨f,hf⟩:∃f,f=eB 2 p:=⟨_,rfl⟩
 have HFF:=hid hf
 obtain⟨x,hx⟩:∃x,th (p+1)=x:=⟨_,rfl⟩
 have HF:Hid (∀j,f j=.string x):=fun j=>by rw[hf,←hx];rfl
 have HMK:Hid (Calls Tryz.prog 19 #[.int .i64 ((p:Int)+1)] w fun e w'=>e=.returned (.string x)∧Below w.heap.size w w'):=by rw[←hx];exact tj w (p+1) (by omega)
 have HV0:=hid hv;clear h hL hv hvB hlq hpe hf hx;go_in;go_wp2_with fail
 refine HMK.out.mono ?_;rintro e wm ⟨rfl,bm⟩;have HBM:=hid bm;clear bm HMK c4;go_wp2_with fail
 go_loopw [6] (fun j wr=>∃k:Nat,k≤n∧j=.int .i64 k∧wr.ownsRow 0 9 1 (.slice pv n capv) n (gu f (k*1)++xs.drop (k*1))∧w.grownBy wr (Value.slice pv n capv).ownBlock) (fun j _=>n-(intOf j).toNat)
 case atStart=>exact ⟨0,by omega,rfl,ay HV0.out (fun b hb=>HBM.out.block b (HV2.out b hb).2.1),⟨HBM.out.os,HBM.out.tape,HBM.out.output,HBM.out.size,fun k hk _=>HBM.out.block k hk⟩⟩
 case round=>
  clear HV0 HBM
  obtain⟨k,hk,rfl,ho,hgr⟩:=hrel
  by_cases hlt:k<n
  ·obtain⟨g,cap,hfm⟩:=aB ho (by omega)
   simp only[Value.slice.injEq]at hfm
   obtain⟨rfl,_,rfl⟩:=hfm
   rw[Nat.mul_one]at ho
   obtain⟨s1,s2,s3,y,s4⟩:=pJ ho (by omega)
   rw[HF.out k]at s1 s2;have HN:Hid (_∧w.grownBy _ _):=And.intro s1 (World.grownBy.trans' hgr s2);have hi1:(k:Int)<(n:Int):=(by omega);clear ho hgr s1 s2;go_wp2_with fail
   go_roundw
   case rel=>exact ⟨k+1,by omega,by go_num,by rw[Nat.mul_one];exact HN.out.1,HN.out.2⟩
   case measure=>simp [intOf];omega
  ·obtain rfl:k=n:=by omega
   have HA0:=hid (AP.start ho hxl hgr);have hsz:=hgr.size;have hnn:¬(k:Int)<(k:Int):=(by omega);clear ho hgr;have hc1:gu (fun i=>f (k*1+i)) (1*1)=[.string x]:=by show[f (k*1+0)]=_;rw[HF.out]
   go_wp2_with(at_builtin;refine cO rfl (.tmp 29) (.tmp 31) 41 rfl 9 i (.string ⟨#[]⟩) 1 16 Tryz.underlying41 hi hz0 hz1 hz2 rfl (by decide) f _ k _ rfl (HA0.out.alloc _) ⟨_,0,none⟩ 1 1 rfl (fS hc1) (by rw[hc1];intro u hu;simp only[List.mem_cons,List.not_mem_nil,or_false]at hu;rcases hu with rfl<;>rfl) (by unfold maxLen;omega) (by omega) (by omega) ?_)
   intro g1 k1 w1 A1 z1;have HA1:=hid A1;clear A1 HA0 hc1;have hc2:gu (fun i=>f (k*1+i)) (2*1)=[.string x,.string x]:=by show[f (k*1+0),f (k*1+1)]=_;rw[HF.out,HF.out]
   go_wp2_with(at_builtin;refine cO rfl (.tmp 33) (.tmp 36) 41 rfl 9 i (.string ⟨#[]⟩) 1 16 Tryz.underlying41 hi hz0 hz1 hz2 rfl (by decide) f _ k _ rfl (HA1.out.alloc _) ⟨_,0,none⟩ 2 2 rfl (fS hc2) (by rw[hc2];intro u hu;simp only[List.mem_cons,List.not_mem_nil,or_false]at hu;rcases hu with rfl|rfl<;>rfl) (by unfold maxLen;omega) (by omega) (by omega) ?_)
   intro g2 k2 w2 A2 z2;have HA2:=hid A2;clear A2 HA1 hc2;have hc3:gu (fun i=>f (k*1+i)) (3*1)=[.string x,.string x,.string x]:=by show[f (k*1+0),f (k*1+1),f (k*1+2)]=_;rw[HF.out,HF.out,HF.out]
   go_wp2_with(at_builtin;refine cO rfl (.tmp 38) (.tmp 42) 41 rfl 9 i (.string ⟨#[]⟩) 1 16 Tryz.underlying41 hi hz0 hz1 hz2 rfl (by decide) f _ k _ rfl (HA2.out.alloc _) ⟨_,0,none⟩ 3 3 rfl (fS hc3) (by rw[hc3];intro u hu;simp only[List.mem_cons,List.not_mem_nil,or_false]at hu;rcases hu with rfl|rfl|rfl<;>rfl) (by unfold maxLen;omega) (by omega) (by omega) ?_)
   intro g3 k3 w3 A3 z3;have HA3:=hid A3;clear A3 HA2 hc3;have O3:=HB.out.1.mid HA3.out.grown (fun g e=>(HV2.out g e).1) (Sm.refl w3);have HO3:=hid O3;have cq:=O3.cell 2 (by decide);have rq:w3.ownsRow 0 41 1 (F 2) p (X 2):=by have:=O3.own 2 (eN (by omega));rw[HP.out.2]at this;exact this
   have HRQ:=hid rq;have hM3:=O3.lt
   obtain⟨aq,kq,eq⟩:=cT rq
   have HEQ:=hid eq;rw[eq]at cq HRQ;clear rq eq O3;go_wp2_with(at_builtin;refine wpList_append_own_at _ rfl (.tmp 48) (.tmp 53) 30 rfl 0 41 ib (.slice none 0 0) 1 24 Tryz.underlying30 hib hzb0 hzb1 hzb2 rfl (by decide) _ p _ rfl (HRQ.out.alloc _) ⟨_,0,none⟩ 4 4 [.slice pv k capv,.slice (some ⟨g1,0,none⟩) (k+1) k1,.slice (some ⟨g2,0,none⟩) (k+2) k2,.slice (some ⟨g3,0,none⟩) (k+3) k3] rfl rfl (cG _ _ _) ?c2 (by unfold maxLen;omega) (by omega) (by simp) ?_)
   case c2=>first|exact⟨rfl,rfl,rfl,rfl⟩|(intro u hu;simp at hu;rcases hu with rfl|rfl|rfl|rfl<;>rfl)
   intro v4 w4 ho4 hg4 _ hat4
   obtain⟨g4,k4,rfl⟩:=aB ho4 (by omega)
   rw[←HEQ.out,←World.size_alloc (o:=.cells #[.slice pv k capv,.slice (some ⟨g1,0,none⟩) (k+1) k1,.slice (some ⟨g2,0,none⟩) (k+2) k2,.slice (some ⟨g3,0,none⟩) (k+3) k3] 41)]at hat4;rw[←HEQ.out]at hg4
   obtain⟨c5,f5⟩:=(HO3.out.alloc _).got 2 (eN (by omega)) hg4
   rw[HEQ.out]at c5;have O5:=(HO3.out.alloc _).grow 2 (eN (by omega)) _ [.slice pv k capv,.slice (some ⟨g1,0,none⟩) (k+1) k1,.slice (some ⟨g2,0,none⟩) (k+2) k2,.slice (some ⟨g3,0,none⟩) (k+3) k3] 4 hg4 (by rw[HP.out.2];exact ho4) hat4;have H4:Hid (_∧_∧_):=And.intro hg4 (And.intro ho4 hat4);have hM4:=hg4.size;rw[World.size_alloc]at hM4;clear ho4 hg4 hat4;go_wp2_with fail
   have cm:=O5.cell 6 (by decide);have fm:=O5.thaw 6;have rm:(w4.setCell ⟨M,2,none⟩ (.slice (some ⟨g4,0,none⟩) (p+4) k4)).ownsRow 0 3 1 (F 6) p (X 6):=by
    have:=O5.own 6 (eN (by omega))
    rw[au _ _ (show(6:Nat)≠2 by omega),au _ _ (show(6:Nat)≠2 by omega),au _ _ (show(6:Nat)≠2 by omega),HP.out.1]at this;exact this
   rw[au _ _ (show(6:Nat)≠2 by omega)]at cm
   obtain⟨am,km,em⟩:=cT rm
   have HEM:=hid em;rw[em]at cm rm;have HRM:=hid rm;have HO5:=hid O5;have H6:Hid (∀(o:Obj) (w6:World),((w4.setCell ⟨M,2,none⟩ (.slice (some ⟨g4,0,none⟩) (p+4) k4)).drew.alloc o).grownBy w6 (Value.slice am p km).ownBlock→w6.cell? ⟨M,6,none⟩=some (.slice am p km)∧w6.frozen? ⟨M,6,none⟩=false):=fun o w6 hg6=>by
    have e6:=au F (.slice (some ⟨g4,0,none⟩) (p+4) k4) (show(6:Nat)≠2 by omega);rw[HEM.out]at e6
    have:=((HO5.out.sm (W:=(w4.setCell ⟨M,2,none⟩ (.slice (some ⟨g4,0,none⟩) (p+4) k4)).drew) ⟨rfl,rfl,rfl,rfl⟩).alloc o).got (w1:=w6) 6 (eN (by omega)) (by rw[e6];exact hg6)
    rw[e6]at this;exact this
   have HFIN:Hid (∀(o:Obj) (w6:World) (v6:Value),w6.ownsRow 0 3 1 v6 (p+4) (X 6++[.int .i64 ((p:Int)+1),.int .i64 ((p:Int)+1),.int .i64 ((p:Int)+1),.int .i64 ((p:Int)+1)])→((w4.setCell ⟨M,2,none⟩ (.slice (some ⟨g4,0,none⟩) (p+4) k4)).drew.alloc o).grownBy w6 (Value.slice am p km).ownBlock→(v6.ownBlock=(Value.slice am p km).ownBlock∨v6.ownBlock=some ((w4.setCell ⟨M,2,none⟩ (.slice (some ⟨g4,0,none⟩) (p+4) k4)).drew.alloc o).heap.size)→jh 2 B M L (.slice pv k capv) w (.returned (.tuple #[])) (w6.setCell ⟨M,6,none⟩ v6)):=fun o w6 v6 r6 g6 a6=>by
    have A3:=HA3.out;rw[HFF.out,←HP.out.1]at A3;rw[←HEM.out]at g6 a6
    obtain⟨F',X',r1,r2,r3⟩:=HB.out.1.own 2 (by omega) (W4:=(w4.setCell ⟨M,2,none⟩ (.slice (some ⟨g4,0,none⟩) (p+4) k4)).drew) A3 HV2.out (Sm.refl w3) H4.out.1 (by rw[HP.out.2];exact H4.out.2.1) H4.out.2.2 ⟨rfl,rfl,rfl,rfl⟩ g6 (by rw[HP.out.1];exact r6) a6
    exact⟨rfl,r3,F',X',r1,fun r=>by
     have h1:=r2 r;have h2:=HB.out.2 r;unfold bump;by_cases c:r=2∨r=4+2
     ·rw[if_pos c]at h1⊢;exact Nat.le_trans h1 (Nat.add_le_add_right h2 4)
     ·rw[if_neg c]at h1⊢;exact Nat.le_trans h1 h2⟩
   have hM5:M<(w4.setCell ⟨M,2,none⟩ (.slice (some ⟨g4,0,none⟩) (p+4) k4)).heap.size:=by rw[World.size_setCell];omega
   clear O5 HO5 H4 HO3 HB HV2 HA3 rm;generalize w4.setCell ⟨M,2,none⟩ (.slice (some ⟨g4,0,none⟩) (p+4) k4)=w5 at*;go_region_law(refine fP rfl (.tmp 62) (.tmp 67) 32 rfl 0 3 ii (.int .i64 0) 1 8 Tryz.underlying32 hii hzi0 hzi1 hzi2 rfl (by decide) (.slice am p km) p (X 6) (by simp[Act.eval]) (HRM.out.alloc _) ⟨w5.heap.size,0,none⟩ 4 4 [.int .i64 ((p:Int)+1),.int .i64 ((p:Int)+1),.int .i64 ((p:Int)+1),.int .i64 ((p:Int)+1)] (by simp[Act.eval]) rfl (cG _ _ _) (by intro u hu;simp at hu;subst hu;rfl) (by unfold maxLen;omega) (by omega) (by simp) ?_;intro v6 w6 ho6 hg6 hat6;obtain⟨g6,k6,rfl⟩:=aB ho6 (by omega);obtain⟨c6,f6⟩:=H6.out _ w6 hg6;have HALL:Hid _:=HFIN.out _ w6 _ ho6 hg6 hat6;clear ho6 hg6 hat6)
   all_goals
    go_wp2;go_end0
    exact⟨rfl,HALL.out.2⟩
end Go.Proofs.YtmpgjkhchfcjlaaGreatDoor
