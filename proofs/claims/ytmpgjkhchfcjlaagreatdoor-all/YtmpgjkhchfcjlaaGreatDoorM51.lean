import Derived.Test.YtmpgjkhchfcjlaaGreatDoorM50
import Derived.Test.YtmpgjkhchfcjlaaGreatDoorTie
import Derived.Test.YtmpgjkhchfcjlaaGreatDoorCards
import Derived.ShutString
import Derived.ChangeOld
import Derived.Below
import Derived.Carry
import Derived.SevenTiedAt
namespace Go.Proofs.YtmpgjkhchfcjlaaGreatDoor
open Go.RowKit
set_option maxRecDepth 100000
section
open Go.ChangeShapes Go.WideShapes Go.ChangeAt Go.RowKit
open Go.ChangeMaps (open_string shut_string)
theorem Tryz.own:ownKnob Tryz.prog.godebug=none:=by kernel_rfl
theorem IQ (w:World)(a:Option Addr)(m c:Nat)(news:List Value)(hl:news.length=m*9)
  (hnews:∀ad,a=some ad→∀j u,news[j]?=some u→w.cell? (ad.add j)=some u)(hn:a=none→m=0)(hb:(9+m)*120≤140737488355328)(hT:bK w)(hMk:kT w)(hS:oc w m news):
  Calls Tryz.prog 3 #[.slice a m c] w fun e w'=>e=.returned (.bool true)∧Below w.heap.size w w':=by
 have HP:Hid (Calls Tryz.prog 4 #[.slice a m c,.int .i64 16] w fun e w'=>e=.returned (.bool true)∧Below w.heap.size w w'):=A9 w a m c news hl hnews hn hb hT hMk hS;clear hl hnews hn hb hT hMk hS;go_in;go_wp2_with fail
 refine HP.out.mono ?_;rintro _ w1 ⟨rfl,B⟩;have HB:Hid (Below w.heap.size w w1):=B;clear B;go_wp2_with fail
 go_ret
 exact⟨rfl,HB.out⟩
theorem G0 (os:Os)(args:Array Value):laidMetH Tryz.prog Rows.allRow.laid ((World.doorLaid Tryz.prog 400 os).forCall (fun _ _=>0) ⟨#[],args,[]⟩).memory:=
 laidMetH_of_parts3 (fuel:=8) (laidMet_of_run' 8 (by kernel_rfl) (by kernel_rfl)) (by kernel_rfl) (by kernel_rfl)
theorem Tryz.laidOut:laidOutB Tryz.prog=true:=by kernel_rfl
theorem Tryz.IU:Tryz.prog.readableRec 22=true:=by kernel_rfl
theorem Tryz.Kp:22<Tryz.prog.types.size:=of_decide_eq_true (by kernel_rfl)
theorem Aa (os:Os)(started:os.Started)(H:Type)(enc:TypeId×Value→H):
  ReturnsInHanded {} Tryz.checked os 3 .any (fun w args=>(Rows.allSpec.pre enc Tryz.prog Tryz.f3 [] false w args∧laidMetH Tryz.prog Rows.allRow.laid w)∧sizedMet enc Tryz.prog Tryz.f3 (OpenSpec.ofChange Rows.allSpec) false w args)
   (Rows.allSpec.post enc Tryz.prog Tryz.f3 false true false false):=by
 refine returnsInHanded_of_change_and (C:=Tryz.checked) (X:=fun w _=>laidMetH Tryz.prog Rows.allRow.laid w) (fun _ _ _ hh h=>h.of_heap hh) Tryz.own started (by kernel_rfl) Tryz.func3
  (ChangeSpec.witness_shaped (enc:=enc) (C:=Tryz.checked) (os:=os) (X:=fun w _=>laidMetH Tryz.prog Rows.allRow.laid w) false (World.doorLaid Tryz.prog 400 os) #[.slice none 0 0] 8 rfl (World.shaped_of_RefB (by kernel_rfl) (by kernel_rfl)) (by kernel_rfl) (by kernel_rfl) (by kernel_rfl) (G0 os _)) ?_
 intro W base args ds gs before hval0 hW _ hsz0 hL _;have hval:∀(j:Nat) t v,Tryz.f3.params[j]?=some t→args[j]?=some v→Value.okWide Tryz.prog W .any base t v:=hval0;have hsz:(DataW.weightsEach Tryz.prog (Tryz.f3.params.toList++Rows.allSpec.plain.varTypes Tryz.prog) (ds++gs)).all (·≤reachBytes)=true:=hsz0;have hW':=hW
 obtain⟨p,q,hA0,hV,hpq,hfz,hnd⟩:=hW
 have hA:DataW.TrodAll enc Tryz.prog W 0 (fun _=>true) true Tryz.f3.params.toList args.toList ds p:=hA0;rw[Tryz.params3]at hA hval hsz
 obtain⟨v0,d0,rfl,rfl,h0⟩:=trodAll_one hA
 obtain⟨rfl,rfl⟩:=trodVars_none hV
 clear hA0 hval0;rw[List.append_nil]at hpq;subst hpq
 obtain⟨a0,len,cap,rfl⟩:=okWide_slice Tryz.underlying22 (hval 0 22 v0 rfl rfl)
 have hlt:=hW'.lt;have h0':=h0
 obtain⟨fuel,hf⟩:=h0
 have hwt:∀k∈d0.weights Tryz.prog 22,k≤reachBytes:=fun k hk=>by
  have:=List.all_eq_true.1 hsz k (DataW.weights_mem_each (j:=0) (t:=22) (d:=d0) rfl rfl k hk)
  simpa using this
 obtain⟨news,n1,n2,n3,n4,n5⟩:=xT hf hwt
 refine(IQ W a0 len cap news n1 n2 n3 n4 (og hL).1 (og hL).2 n5).mono fun e W' ⟨he,dY⟩=> ?_
 subst he
 exact⟨_,rfl,_,_,_,[],_,[],hW',trodAll_mk1 (shut_bool Tryz.underlying4 _),trodAll_mk1 (Below.trod Tryz.laidOut Tryz.IU Tryz.Kp h0' dY hlt),rfl,dY.frame _,fun h=>by cases h⟩
theorem G4:Rows.AllSaid:=
 OpenClaim.holds_of_wide 3 Tryz.f3 rfl rfl rfl rfl rfl rfl rfl ⟨rfl,rfl,rfl,rfl,rfl⟩ rfl rfl rfl rfl rfl (by kernel_rfl) Tryz.func3 (by kernel_rfl)
  (of_decide_eq_true (by kernel_rfl)) (by unfold Func.isWrapper;first|(rw[if_pos (by decide+kernel)];kernel_rfl)|(rw[if_neg (by decide+kernel)];exact⟨rfl,rfl⟩))
  (fun os started H enc _=>Aa os started H enc)
theorem all_holds:Rows.AllCardSaid:=
 Claim7.holds_tied_plain_at .later [] [.data,.data] true Rows.allCard.stood.harness false
  G4 (fun _ h=>by cases h) (by kernel_rfl) (fun _ h=>by cases h) all_row_tie rfl ⟨rfl,rfl⟩ (by kernel_rfl) rfl
  (fun f fn hf hfn=>by
   obtain rfl:f=3:=Option.some.inj ((show Tryz.prog.funcNamed Rows.allRow.func=some 3 by kernel_rfl).symm.trans hf)|>.symm;obtain rfl:fn=Tryz.f3:=(Option.some.inj (Tryz.func3.symm.trans hfn)).symm
   exact⟨by kernel_rfl,fun j t ht=>by
    rw[Tryz.params3]at ht;have hm:t∈[22]:=(by simpa using Array.mem_of_getElem? ht);have hall:([22].all fun u=> !Tryz.prog.wantsStandIn u)=true:=by kernel_rfl
    exact(show Tryz.prog.wantsStandIn t=false by simpa using List.all_eq_true.1 hall t hm)⟩)
  (by kernel_rfl)
#print axioms all_holds
end
end Go.Proofs.YtmpgjkhchfcjlaaGreatDoor
