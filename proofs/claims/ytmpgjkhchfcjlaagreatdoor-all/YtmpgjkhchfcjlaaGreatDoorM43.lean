import Derived.Test.YtmpgjkhchfcjlaaGreatDoorM42
namespace Go.Proofs.YtmpgjkhchfcjlaaGreatDoor
open Go.RowKit
set_option maxRecDepth 100000
set_option maxHeartbeats 8000000
structure Fu (w W2:World) (U:Nat→Prop) (Y eb b cap:Nat) (g:PG) (h:HS) (n1:Nat) (x1:Int) (tn:ByteArray):Prop where
 g0:W2.cell? ⟨eb,0,none⟩=some (.string (h.text h.entry))
 g2:W2.cell? ⟨Y,2,none⟩=some (.int .u64 x1)
 g3:W2.cell? ⟨Y,3,none⟩=some (.slice (some ⟨b,0,none⟩) h.kept.length cap)
 gt:W2.cell? ⟨b,n1*3,none⟩=some (.string tn)
 lt:n1<h.kept.length
 hY:Y<W2.heap.size
 hE:eb<W2.heap.size
 M9:∀W,Calls Tryz.prog 35 #[.string (h.text h.entry),.string tn,.int .u64 x1] W (bU W h.aK h.aG)
 on:∀W,Below W2.heap.size W2 W→(W.cell? ⟨Y,2,none⟩=some (.int .u64 x1)∧W.frozen? ⟨Y,2,none⟩=false∧Y<W.heap.size)∧nX w (W.setCell ⟨Y,2,none⟩ (.int .u64 h.aG)) U Y g h
theorem Jc (K:Act→World→Prop)(P:Ending→World→Prop)(w W2:World)(U:Nat→Prop)(Y eb b cap:Nat)(g:PG)(h:HS)(n1 sm:Nat)(x1:Int)(tn:ByteArray)(v9 v10 v11 v12 v13 v14 v15 v16 v17 v18 v19 v20 v21 v22 v23 v24 v25 v26 v27 v28 v29 v30 v31 v32 v33 v34 v35 v36 v37 v38 v39 v40 v41 v42 v43 v44 v45 v46 v47 v48 v49 v50 v51 v52 v53 v54 v55 v56 v57 v58 v59 v60:Value)(A:Fu w W2 U Y eb b cap g h n1 x1 tn)(hK:∀(W3:World) (x61 x62 x63 x64 x65 x66 x67 x68 x69 x70 x71 x72 x73 x74 x75 x76 x77 x78 x79 x80 x81:Value),nX w W3 U Y g h→K (sr Y eb sm h.aK (.int .i64 (n1:Nat)) v9 v10 v11 v12 v13 v14 v15 v16 v17 v18 v19 v20 v21 v22 v23 v24 v25 v26 v27 v28 v29 v30 v31 v32 v33 v34 v35 v36 v37 v38 v39 v40 v41 v42 v43 v44 v45 v46 v47 v48 v49 v50 v51 v52 v53 v54 v55 v56 v57 v58 v59 v60 x61 x62 x63 x64 x65 x66 x67 x68 x69 x70 x71 x72 x73 x74 x75 x76 x77 x78 x79 x80 x81 undef undef undef) W3):
  (Jb Tryz.f45.body).wp Tryz.prog (Exit.then K (bodyPost Tryz.prog Tryz.f45 P)) (sr Y eb sm ⟨#[]⟩ (.int .i64 (n1:Nat)) v9 v10 v11 v12 v13 v14 v15 v16 v17 v18 v19 v20 v21 v22 v23 v24 v25 v26 v27 v28 v29 v30 v31 v32 v33 v34 v35 v36 v37 v38 v39 v40 v41 v42 v43 v44 v45 v46 v47 v48 v49 v50 v51 v52 v53 v54 v55 v56 v57 v58 v59 v60 undef undef undef undef undef undef undef undef undef undef undef undef undef undef undef undef undef undef undef undef undef undef undef undef) W2:=by
 obtain⟨g0,g2,g3,gt,hlt,hY,hE,hwi,hon⟩:=A
 have hin:(n1:Int)<(h.kept.length:Int):=by omega
 have HWI:Hid (∀W,Calls Tryz.prog 35 #[.string (h.text h.entry),.string tn,.int .u64 x1] W (bU W h.aK h.aG)):=hwi;have HOA:Hid (∀W,Below W2.heap.size W2 W→(W.cell? ⟨Y,2,none⟩=some (.int .u64 x1)∧W.frozen? ⟨Y,2,none⟩=false∧Y<W.heap.size)∧nX w (W.setCell ⟨Y,2,none⟩ (.int .u64 h.aG)) U Y g h):=hon;unfold sr at hK⊢;have HK:Hid _:=hK;clear hwi hon hK;generalize h.aG=cs at*;generalize h.text h.entry=te at*;generalize h.kept.length=kn at*;conv=>arg 2;whnf
 go_region_with(go_at_call 35;refine(HWI.out _).mono ?_;rintro e w3 ⟨B3,rfl⟩;obtain⟨⟨k2,j2,hY3⟩,hoa⟩:=HOA.out w3 ⟨B3.os,B3.tape,B3.output,B3.size,B3.block⟩;have HA3:Hid _:=hoa;clear B3 hoa)
 all_goals exact HK.out _ _ _ _ _ _ _ _ _ _ _ _ _ _ _ _ _ _ _ _ _ _ HA3.out
end Go.Proofs.YtmpgjkhchfcjlaaGreatDoor
