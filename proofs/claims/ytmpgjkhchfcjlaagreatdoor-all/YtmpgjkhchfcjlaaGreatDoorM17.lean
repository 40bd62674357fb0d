import Derived.Test.YtmpgjkhchfcjlaaGreatDoorM12
namespace Go.Proofs.YtmpgjkhchfcjlaaGreatDoor
open Go.RowKit
set_option maxHeartbeats 40000000
set_option maxRecDepth 100000
theorem Hi (M:Nat)(w:World)(vs:Value)(inp:ByteArray)(ρ:RR)(cb co L cap p kk:Nat)(k:Int)(A:Kq M w vs inp ρ cb co L cap p kk k)(HU:aI kk≤ρ.stack.length∧ρ.stack.length-aI kk+eO kk≤32)(k0:kk≠0)(k19:kk≠19)(a b:Int)(ha:a=if aI kk=0 then 0 else ρ.stack.getD (ρ.stack.length-aI kk) 0)(hb:b=if aI kk=2 then ρ.stack.getD (ρ.stack.length-aI kk+1) 0 else 0)(h11:((kk:Int)==11)=true→(b==0)=false)(h18:((kk:Int)==18)=true→¬(16:Int)≤(ρ.out.size:Int)∧decide ((16:Int)≤(ρ.out.size:Int))=false)(ρ3:RR)(HD:∀(w1:World) (vs1:Value),cz M w1 (.slice (some ⟨cb,co,none⟩) L cap) vs1 inp {ρ with steps:=ρ.steps+1,stack:=ρ.stack.take (ρ.stack.length-aI kk)}→Calls Tryz.prog 154 #[.pointer (some ⟨M,0,none⟩),.int .u8 (kk:Int),.int .i64 a,.int .i64 b,.int .i64 k] w1 (fI M w1 (.slice (some ⟨cb,co,none⟩) L cap) inp ρ3))(nx:Int)(hnx:nx=if kk=14∨kk=15∧a=0 then k else(p:Int)+bp kk):
  Calls Tryz.prog 109 #[.pointer (some ⟨M,0,none⟩)] w (fI M w (.slice (some ⟨cb,co,none⟩) L cap) inp {ρ3 with here:=nx}):=by
 obtain⟨pp,n,cp,rfl,c0,c20,Hg,GV,c3,f90,f3,hi1,hn,hrm,pV,xY,htr,t2,l2,QLY,QSZ,hK,hK2,hR,HE,zk⟩:=A.pre
 obtain⟨h,hhere,hck,hlt,hsnd,hone,hk0,hk1,hne,hroom,hcap,h240,hkk,hlen,hs0,hs1⟩:=A
 rw[←hn]at hlen HU;have hcp:=hrm.1;have hcp2:=hrm.2.1;clear hhere hsnd hone
 obtain⟨hu,ho⟩:=HU
 have hu':¬(n:Int)<(aI kk:Nat):=by omega
 have ho':¬(32:Int)<(n:Int)-(aI kk:Nat)+(eO kk:Int):=by omega
 generalize eO kk=l at*;have e0:((kk:Int)==0)=false:=by simp;omega
 have e19:((kk:Int)==19)=false:=by simp;omega
 have HN:nx=if((kk:Int)==14||(kk:Int)==15&&a==0)=true then k else(p:Int)+bp kk:=by
  rw[hnx];congr 1
  simp
  omega
 rcases M7 a kk hkk k0 k19 with⟨hq,H⟩|⟨hq,H⟩|⟨hq,H⟩;all_goals
  rw[hq]at hu hu' ho' htr ha hb HD;clear hnx k0 k19
 focus
  obtain rfl:=ha;obtain rfl:=hb;have HSR:Hid (qI M w (.slice pp n cp) (ρ.stack.take (ρ.stack.length-0))):=(by show qI _ _ _ _;rw[Nat.sub_zero,List.take_length];exact h.row);clear h
  obtain⟨rfl,rfl,rfl⟩|⟨g,rfl⟩:=DY hrm
  all_goals rcases H with H|H|H
 rotate_left 6
 focus
  obtain⟨q,g,rfl,rfl,hgM,ca,iq,ix1,ix1',ix0⟩:=IV hn pV hu
  rw[if_neg (by decide),iq]at ha;rw[if_neg (by decide)]at hb;subst hb;rw[←ha]at ca;rw[iq]at HD;have HSR:=hid (h.row.take q (by omega)).2.2;clear h ha iq;rcases H with H|H|H|⟨H,ea⟩|⟨H,ea⟩
 rotate_left 5
 focus
  obtain⟨q,g,rfl,rfl,hgM,ca,cb',iq,ix1,ix1',ix0,ix2,ix3⟩:=IW hn pV hu
  rw[if_neg (by decide),iq]at ha;rw[if_pos rfl,iq]at hb;rw[←ha]at ca;rw[←hb]at cb';rw[iq]at HD;have HSR:=hid (h.row.take q (by omega)).2.2;clear h ha hb iq;rcases H with H|H
 all_goals
  obtain⟨hz,e11,e18,e14,e15⟩:=H
  rw[hz]at xY QSZ zk HN;have HX:=hid fun(W:World) hW=>HD W _ ((hR.out.setStack (HSR.out.set 90 _)).same hW)
  have HN':=hid HN;try have eb:=h11 e11
  try have ho1:=h18 e18
  clear pV hn hq hz HD HN h11 h18
  obtain⟨hz,rfl⟩|⟨hz,hi2,hi3,hck2⟩:=zk<;>cases hz
  go_in;go_wp2_with fail
  repeat
   go_quiet(first|(go_at_call 153;refine Calls.quiet_of_same (QLY.out _))|(go_at_call 97;refine Calls.quiet_of_same (QSZ.out _)))
   go_wp2_with(first|(go_at_call 97;refine(cF _ _).mono ?_;rintro e w' ⟨rfl,rfl⟩;rw[xY])|(go_at_call 152;refine(mQ _ _).mono ?_;rintro e w' ⟨rfl,rfl⟩;rw[htr]))
  refine(HX.out _ ?rm).mono ?_
  case rm=>rfl
  rintro e w2 ⟨rfl,⟨vs2,R2⟩,K2⟩;have g20:=R2.cell 20 (by omega);have j20:=R2.thaw 20;have HR3:=hid R2.Ai;have HK3:Hid (∀x,Kept w.heap.size M w (w2.setCell ⟨M,20,none⟩ x)):=fun _=>((K2.sized (by simp)).from (hK2.out _) rfl rfl rfl rfl).trans (Kept.set _ _ _ _ _)
  clear R2 K2;go_wp2_with fail
  go_end0
  refine⟨rfl,⟨vs2,?_⟩,HK3.out _⟩
  rw[HN'.out];simp only[e14,e15];try rw[ea]
  exact HR3.out _
end Go.Proofs.YtmpgjkhchfcjlaaGreatDoor
