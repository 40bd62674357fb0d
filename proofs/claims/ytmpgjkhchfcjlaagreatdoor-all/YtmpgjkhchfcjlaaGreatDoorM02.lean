import Derived.Test.YtmpgjkhchfcjlaaGreatDoorM01
namespace Go.Proofs.YtmpgjkhchfcjlaaGreatDoor
open Go.RowKit
set_option maxRecDepth 100000
theorem Ju (base M:Nat)(w:World)(vs vo:Value)(σ:St)(n:Int)(l:List Int)(a:Int)(hs:σ.stack=l++[a])(hm:l.length<31)(hT:bK w)(h:MS base M w vs vo σ):
  Calls Tryz.prog 150 #[.pointer (some ⟨M,0,none⟩),.int .u8 3,.int .u16 n] w (Out base M w {σ with stack:=l++[a,a]}):=by
 have hft:=aP;go_in;refine bQ (ag Tryz.f150.body) (by kernel_rfl) ?_;go_wp2_with fail
 refine(Jn _ hT).mono ?_
 rintro e w1 ⟨rfl,c,rfl⟩;go_wp2_with fail
 refine(sB base M _ vs vo σ l a hs (by omega) (h.alloc _)).mono ?_
 rintro e w2 ⟨rfl,⟨vs2,h2⟩,k2⟩;have k1:=(Kept.alloc (M:=M) w h.le (.cells c 176)).trans k2;clear k2;go_wp2_with fail
 refine eF _ (fun _ _ _ c=>c) _ _ _ _ 5 (by omega) (by omega) (fun Q' hQ'=>Gc _ _ _ _ _ _ _ _ _ _ _ _ _ _ _ _ _ Q' hQ') ?_;refine iT (c:=(aC 20 (ai (ag Tryz.f150.body)) []).getD 4 .skip) (d:=(aC 20 (ai (ag Tryz.f150.body)) []).getD 5 .skip) (rest:=(aC 20 (ai (ag Tryz.f150.body)) []).drop 6) (by kernel_rfl) (fun K hK=> ?_);simp only[tl,List.map_nil,List.map_cons,List.replicate,List.cons_append,List.nil_append];conv=>arg 2;whnf
 go_wp2_with fail
 intro K';conv=>arg 2;whnf
 go_wp2_with fail
 refine(eD base M _ vs2 vo _ ⟨w2.heap.size,0,none⟩ 2 2 [_,_] (h2.alloc _) (by omega) rfl (mG _ _ _ _) (by simp;omega)).mono ?_
 rintro e w3 ⟨rfl,⟨vs3,h3⟩,k3⟩;have k4:=k1.trans ((Kept.alloc (M:=M) w2 h2.le _).trans k3);go_wp2;go_end0
 exact⟨rfl,⟨_,_,h3⟩,k4⟩
theorem Gx (base M:Nat)(w:World)(vs vo:Value)(σ:St)(n:Int)(l:List Int)(a b:Int)(hs:σ.stack=l++[a,b])(hm:l.length<31)(hT:bK w)(h:MS base M w vs vo σ):
  Calls Tryz.prog 150 #[.pointer (some ⟨M,0,none⟩),.int .u8 5,.int .u16 n] w (Out base M w {σ with stack:=l++[b,a]}):=by
 have hft:=aP;go_in;refine bQ (ag Tryz.f150.body) (by kernel_rfl) ?_;go_wp2_with fail
 refine(Jp _ hT).mono ?_
 rintro e w1 ⟨rfl,c,rfl⟩;go_wp2_with fail
 refine(mF base M _ vs vo σ l a b hs (by omega) (h.alloc _)).mono ?_
 rintro e w2 ⟨rfl,⟨vs2,h2⟩,k2⟩;have k1:=(Kept.alloc (M:=M) w h.le (.cells c 176)).trans k2;clear k2;go_wp2_with fail
 refine eF _ (fun _ _ _ c=>c) _ _ _ _ 6 (by omega) (by omega) (fun Q' hQ'=>Gd _ _ _ _ _ _ _ _ _ _ _ _ _ _ _ _ _ Q' hQ') ?_;refine dO (c:=(aC 20 (ai (ag Tryz.f150.body)) []).getD 5 .skip) (rest:=(aC 20 (ai (ag Tryz.f150.body)) []).drop 6) (by kernel_rfl) (fun K=> ?_);simp only[tl,List.map_nil,List.map_cons,List.replicate,List.cons_append,List.nil_append];conv=>arg 2;whnf
 go_wp2_with fail
 refine(eD base M _ vs2 vo _ ⟨w2.heap.size,0,none⟩ 2 2 [_,_] (h2.alloc _) (by omega) rfl (mG _ _ _ _) (by simp;omega)).mono ?_
 rintro e w3 ⟨rfl,⟨vs3,h3⟩,k3⟩;have k4:=k1.trans ((Kept.alloc (M:=M) w2 h2.le _).trans k3);go_wp2;go_end0
 exact⟨rfl,⟨_,_,h3⟩,k4⟩
theorem Jv (base M:Nat)(w:World)(vs vo:Value)(σ:St)(n:Int)(l:List Int)(a b:Int)(hs:σ.stack=l++[a,b])(hm:l.length<31)(hT:bK w)(h:MS base M w vs vo σ):
  Calls Tryz.prog 150 #[.pointer (some ⟨M,0,none⟩),.int .u8 7,.int .u16 n] w (Out base M w {σ with stack:=l++[IntKind.u16.wrap (a+IntKind.u16.wrap (-b))]}):=by
 have hft:=aP;go_in;refine bQ (ag Tryz.f150.body) (by kernel_rfl) ?_;go_wp2_with fail
 refine(Jr _ hT).mono ?_
 rintro e w1 ⟨rfl,c,rfl⟩;go_wp2_with fail
 refine(mF base M _ vs vo σ l a b hs (by omega) (h.alloc _)).mono ?_
 rintro e w2 ⟨rfl,⟨vs2,h2⟩,k2⟩;have k1:=(Kept.alloc (M:=M) w h.le (.cells c 176)).trans k2;clear k2;go_wp2_with fail
 refine eF _ (fun _ _ _ c=>c) _ _ _ _ 7 (by omega) (by omega) (fun Q' hQ'=>Ge _ _ _ _ _ _ _ _ _ _ _ _ _ _ _ _ _ Q' hQ') ?_;refine iT (c:=(aC 20 (ai (ag Tryz.f150.body)) []).getD 6 .skip) (d:=(aC 20 (ai (ag Tryz.f150.body)) []).getD 7 .skip) (rest:=(aC 20 (ai (ag Tryz.f150.body)) []).drop 8) (by kernel_rfl) (fun K hK=> ?_);simp only[tl,List.map_nil,List.map_cons,List.replicate,List.cons_append,List.nil_append];conv=>arg 2;whnf
 go_wp2_with fail
 intro K';conv=>arg 2;whnf
 go_wp2_with fail
 refine(eD base M _ vs2 vo _ ⟨w2.heap.size,0,none⟩ 1 1 [_] (h2.alloc _) (by omega) rfl (cell_one_new _ _ _) (by simp;omega)).mono ?_
 rintro e w3 ⟨rfl,⟨vs3,h3⟩,k3⟩;have k4:=k1.trans ((Kept.alloc (M:=M) w2 h2.le _).trans k3);go_wp2;go_end0
 exact⟨rfl,⟨_,_,h3⟩,k4⟩
theorem Jw (base M:Nat)(w:World)(vs vo:Value)(σ:St)(n:Int)(l:List Int)(a b:Int)(hs:σ.stack=l++[a,b])(hm:l.length<31)(hT:bK w)(h:MS base M w vs vo σ):
  Calls Tryz.prog 150 #[.pointer (some ⟨M,0,none⟩),.int .u8 6,.int .u16 n] w (Out base M w {σ with stack:=l++[IntKind.u16.wrap (a+b)]}):=by
 have hft:=aP;go_in;refine bQ (ag Tryz.f150.body) (by kernel_rfl) ?_;go_wp2_with fail
 refine(Jq _ hT).mono ?_
 rintro e w1 ⟨rfl,c,rfl⟩;go_wp2_with fail
 refine(mF base M _ vs vo σ l a b hs (by omega) (h.alloc _)).mono ?_
 rintro e w2 ⟨rfl,⟨vs2,h2⟩,k2⟩;have k1:=(Kept.alloc (M:=M) w h.le (.cells c 176)).trans k2;clear k2;go_wp2_with fail
 refine eF _ (fun _ _ _ c=>c) _ _ _ _ 8 (by omega) (by omega) (fun Q' hQ'=>Gf _ _ _ _ _ _ _ _ _ _ _ _ _ _ _ _ _ Q' hQ') ?_;refine dO (c:=(aC 20 (ai (ag Tryz.f150.body)) []).getD 7 .skip) (rest:=(aC 20 (ai (ag Tryz.f150.body)) []).drop 8) (by kernel_rfl) (fun K=> ?_);simp only[tl,List.map_nil,List.map_cons,List.replicate,List.cons_append,List.nil_append];conv=>arg 2;whnf
 go_wp2_with fail
 refine(eD base M _ vs2 vo _ ⟨w2.heap.size,0,none⟩ 1 1 [_] (h2.alloc _) (by omega) rfl (cell_one_new _ _ _) (by simp;omega)).mono ?_
 rintro e w3 ⟨rfl,⟨vs3,h3⟩,k3⟩;have k4:=k1.trans ((Kept.alloc (M:=M) w2 h2.le _).trans k3);go_wp2;go_end0
 exact⟨rfl,⟨_,_,h3⟩,k4⟩
theorem Jx (base M:Nat)(w:World)(vs vo:Value)(σ:St)(n:Int)(l:List Int)(a b:Int)(hs:σ.stack=l++[a,b])(hm:l.length<31)(hT:bK w)(h:MS base M w vs vo σ):
  Calls Tryz.prog 150 #[.pointer (some ⟨M,0,none⟩),.int .u8 8,.int .u16 n] w (Out base M w {σ with stack:=l++[IntKind.u16.wrap (a*b)]}):=by
 have hft:=aP;go_in;refine bQ (ag Tryz.f150.body) (by kernel_rfl) ?_;go_wp2_with fail
 refine(Js _ hT).mono ?_
 rintro e w1 ⟨rfl,c,rfl⟩;go_wp2_with fail
 refine(mF base M _ vs vo σ l a b hs (by omega) (h.alloc _)).mono ?_
 rintro e w2 ⟨rfl,⟨vs2,h2⟩,k2⟩;have k1:=(Kept.alloc (M:=M) w h.le (.cells c 176)).trans k2;clear k2;go_wp2_with fail
 refine eF _ (fun _ _ _ c=>c) _ _ _ _ 9 (by omega) (by omega) (fun Q' hQ'=>Gg _ _ _ _ _ _ _ _ _ _ _ _ _ _ _ _ _ Q' hQ') ?_;refine dO (c:=(aC 20 (ai (ag Tryz.f150.body)) []).getD 8 .skip) (rest:=(aC 20 (ai (ag Tryz.f150.body)) []).drop 9) (by kernel_rfl) (fun K=> ?_);simp only[tl,List.map_nil,List.map_cons,List.replicate,List.cons_append,List.nil_append];conv=>arg 2;whnf
 go_wp2_with fail
 refine(eD base M _ vs2 vo _ ⟨w2.heap.size,0,none⟩ 1 1 [_] (h2.alloc _) (by omega) rfl (cell_one_new _ _ _) (by simp;omega)).mono ?_
 rintro e w3 ⟨rfl,⟨vs3,h3⟩,k3⟩;have k4:=k1.trans ((Kept.alloc (M:=M) w2 h2.le _).trans k3);go_wp2;go_end0
 exact⟨rfl,⟨_,_,h3⟩,k4⟩
theorem Jy (base M:Nat)(w:World)(vs vo:Value)(σ:St)(n:Int)(l:List Int)(a b:Int)(hs:σ.stack=l++[a,b])(hm:l.length<31)(hT:bK w)(h:MS base M w vs vo σ):
  Calls Tryz.prog 150 #[.pointer (some ⟨M,0,none⟩),.int .u8 9,.int .u16 n] w (Out base M w {σ with stack:=l++[bits .and .u16 a b]}):=by
 have hft:=aP;go_in;refine bQ (ag Tryz.f150.body) (by kernel_rfl) ?_;go_wp2_with fail
 refine(Jt _ hT).mono ?_
 rintro e w1 ⟨rfl,c,rfl⟩;go_wp2_with fail
 refine(mF base M _ vs vo σ l a b hs (by omega) (h.alloc _)).mono ?_
 rintro e w2 ⟨rfl,⟨vs2,h2⟩,k2⟩;have k1:=(Kept.alloc (M:=M) w h.le (.cells c 176)).trans k2;clear k2;go_wp2_with fail
 refine eF _ (fun _ _ _ c=>c) _ _ _ _ 10 (by omega) (by omega) (fun Q' hQ'=>Gh _ _ _ _ _ _ _ _ _ _ _ _ _ _ _ _ _ Q' hQ') ?_;refine dO (c:=(aC 20 (ai (ag Tryz.f150.body)) []).getD 9 .skip) (rest:=(aC 20 (ai (ag Tryz.f150.body)) []).drop 10) (by kernel_rfl) (fun K=> ?_);simp only[tl,List.map_nil,List.map_cons,List.replicate,List.cons_append,List.nil_append];conv=>arg 2;whnf
 go_wp2_with fail
 refine(eD base M _ vs2 vo _ ⟨w2.heap.size,0,none⟩ 1 1 [_] (h2.alloc _) (by omega) rfl (cell_one_new _ _ _) (by simp;omega)).mono ?_
 rintro e w3 ⟨rfl,⟨vs3,h3⟩,k3⟩;have k4:=k1.trans ((Kept.alloc (M:=M) w2 h2.le _).trans k3);go_wp2;go_end0
 exact⟨rfl,⟨_,_,h3⟩,k4⟩
theorem Jz (base M:Nat)(w:World)(vs vo:Value)(σ:St)(n:Int)(l:List Int)(a b:Int)(hs:σ.stack=l++[a,b])(hm:l.length<31)(hT:bK w)(h:MS base M w vs vo σ):
  Calls Tryz.prog 150 #[.pointer (some ⟨M,0,none⟩),.int .u8 10,.int .u16 n] w (Out base M w {σ with stack:=l++[bits .xor .u16 a b]}):=by
 have hft:=aP;go_in;refine bQ (ag Tryz.f150.body) (by kernel_rfl) ?_;go_wp2_with fail
 refine(Gj _ hT).mono ?_
 rintro e w1 ⟨rfl,c,rfl⟩;go_wp2_with fail
 refine(mF base M _ vs vo σ l a b hs (by omega) (h.alloc _)).mono ?_
 rintro e w2 ⟨rfl,⟨vs2,h2⟩,k2⟩;have k1:=(Kept.alloc (M:=M) w h.le (.cells c 176)).trans k2;clear k2;go_wp2_with fail
 refine eF _ (fun _ _ _ c=>c) _ _ _ _ 13 (by omega) (by omega) (fun Q' hQ'=>Du _ _ _ _ _ _ _ _ _ _ _ _ _ _ _ _ _ Q' hQ') ?_;refine dO (c:=(aC 20 (ai (ag Tryz.f150.body)) []).getD 12 .skip) (rest:=(aC 20 (ai (ag Tryz.f150.body)) []).drop 13) (by kernel_rfl) (fun K=> ?_);simp only[tl,List.map_nil,List.map_cons,List.replicate,List.cons_append,List.nil_append];conv=>arg 2;whnf
 go_wp2_with fail
 refine(eD base M _ vs2 vo _ ⟨w2.heap.size,0,none⟩ 1 1 [_] (h2.alloc _) (by omega) rfl (cell_one_new _ _ _) (by simp;omega)).mono ?_
 rintro e w3 ⟨rfl,⟨vs3,h3⟩,k3⟩;have k4:=k1.trans ((Kept.alloc (M:=M) w2 h2.le _).trans k3);go_wp2;go_end0
 exact⟨rfl,⟨_,_,h3⟩,k4⟩
theorem DB (base M:Nat)(w:World)(vs vo:Value)(σ:St)(n:Int)(l:List Int)(a b:Int)(hs:σ.stack=l++[a,b])(hm:l.length<31)(hT:bK w)(h:MS base M w vs vo σ):
  Calls Tryz.prog 150 #[.pointer (some ⟨M,0,none⟩),.int .u8 12,.int .u16 n] w (Out base M w {σ with stack:=l++[Gt (decide (bits .xor .u16 a b<1))]}):=by
 have hft:=aP;go_in;refine bQ (ag Tryz.f150.body) (by kernel_rfl) ?_;go_wp2_with fail
 refine(Gk _ hT).mono ?_
 rintro e w1 ⟨rfl,c,rfl⟩;go_wp2_with fail
 refine(mF base M _ vs vo σ l a b hs (by omega) (h.alloc _)).mono ?_
 rintro e w2 ⟨rfl,⟨vs2,h2⟩,k2⟩;have k1:=(Kept.alloc (M:=M) w h.le (.cells c 176)).trans k2;clear k2;go_wp2_with fail
 refine eF _ (fun _ _ _ c=>c) _ _ _ _ 11 (by omega) (by omega) (fun Q' hQ'=>Ds _ _ _ _ _ _ _ _ _ _ _ _ _ _ _ _ _ Q' hQ') ?_;refine iT (c:=(aC 20 (ai (ag Tryz.f150.body)) []).getD 10 .skip) (d:=(aC 20 (ai (ag Tryz.f150.body)) []).getD 11 .skip) (rest:=(aC 20 (ai (ag Tryz.f150.body)) []).drop 12) (by kernel_rfl) (fun K hK=> ?_);simp only[tl,List.map_nil,List.map_cons,List.replicate,List.cons_append,List.nil_append];conv=>arg 2;whnf
 go_wp2_with fail
 intro K';conv=>arg 2;whnf
 go_wp2_with fail
 refine(sD _ _).mono ?_
 rintro e w2' ⟨rfl,rfl⟩;go_wp2_with fail
 refine(eD base M _ vs2 vo _ ⟨w2'.heap.size,0,none⟩ 1 1 [_] (h2.alloc _) (by omega) rfl (cell_one_new _ _ _) (by simp;omega)).mono ?_
 rintro e w3 ⟨rfl,⟨vs3,h3⟩,k3⟩;have k4:=k1.trans ((Kept.alloc (M:=M) w2' h2.le _).trans k3);go_wp2;go_end0
 exact⟨rfl,⟨_,_,h3⟩,k4⟩
theorem Gy (base M:Nat)(w:World)(vs vo:Value)(σ:St)(n:Int)(l:List Int)(a b:Int)(hs:σ.stack=l++[a,b])(hm:l.length<31)(hT:bK w)(h:MS base M w vs vo σ):
  Calls Tryz.prog 150 #[.pointer (some ⟨M,0,none⟩),.int .u8 13,.int .u16 n] w (Out base M w {σ with stack:=l++[Gt (decide (a<b))]}):=by
 have hft:=aP;go_in;refine bQ (ag Tryz.f150.body) (by kernel_rfl) ?_;go_wp2_with fail
 refine(Gl _ hT).mono ?_
 rintro e w1 ⟨rfl,c,rfl⟩;go_wp2_with fail
 refine(mF base M _ vs vo σ l a b hs (by omega) (h.alloc _)).mono ?_
 rintro e w2 ⟨rfl,⟨vs2,h2⟩,k2⟩;have k1:=(Kept.alloc (M:=M) w h.le (.cells c 176)).trans k2;clear k2;go_wp2_with fail
 refine eF _ (fun _ _ _ c=>c) _ _ _ _ 12 (by omega) (by omega) (fun Q' hQ'=>Dt _ _ _ _ _ _ _ _ _ _ _ _ _ _ _ _ _ Q' hQ') ?_;refine dO (c:=(aC 20 (ai (ag Tryz.f150.body)) []).getD 11 .skip) (rest:=(aC 20 (ai (ag Tryz.f150.body)) []).drop 12) (by kernel_rfl) (fun K=> ?_);simp only[tl,List.map_nil,List.map_cons,List.replicate,List.cons_append,List.nil_append];conv=>arg 2;whnf
 go_wp2_with fail
 refine(sD _ _).mono ?_
 rintro e w2' ⟨rfl,rfl⟩;go_wp2_with fail
 refine(eD base M _ vs2 vo _ ⟨w2'.heap.size,0,none⟩ 1 1 [_] (h2.alloc _) (by omega) rfl (cell_one_new _ _ _) (by simp;omega)).mono ?_
 rintro e w3 ⟨rfl,⟨vs3,h3⟩,k3⟩;have k4:=k1.trans ((Kept.alloc (M:=M) w2' h2.le _).trans k3);go_wp2;go_end0
 exact⟨rfl,⟨_,_,h3⟩,k4⟩
theorem Gz (base M:Nat)(w:World)(vs vo:Value)(σ:St)(n:Int)(l:List Int)(a b:Int)(hs:σ.stack=l++[a,b])(hm:l.length<31)(hb:b=0)(hT:bK w)(h:MS base M w vs vo σ):
  Calls Tryz.prog 150 #[.pointer (some ⟨M,0,none⟩),.int .u8 11,.int .u16 n] w (Out base M w (fin {σ with stack:=l} 1 1)):=by
 have hft:=aP;have hb0:(b==0)=true:=by rw[beq_iff_eq];omega
 clear hb;go_in;refine bQ (ag Tryz.f150.body) (by kernel_rfl) ?_;go_wp2_with fail
 refine(Ac _ hT).mono ?_
 rintro e w1 ⟨rfl,c,rfl⟩;go_wp2_with fail
 refine(mF base M _ vs vo σ l a b hs (by omega) (h.alloc _)).mono ?_
 rintro e w2 ⟨rfl,⟨vs2,h2⟩,k2⟩;have k1:=(Kept.alloc (M:=M) w h.le (.cells c 176)).trans k2;clear k2;go_wp2_with fail
 refine eF _ (fun _ _ _ c=>c) _ _ _ _ 14 (by omega) (by omega) (fun Q' hQ'=>vt _ _ _ _ _ _ _ _ _ _ _ _ _ _ _ _ _ Q' hQ') ?_;refine dO (c:=(aC 20 (ai (ag Tryz.f150.body)) []).getD 13 .skip) (rest:=(aC 20 (ai (ag Tryz.f150.body)) []).drop 14) (by kernel_rfl) (fun K=> ?_);simp only[tl,List.map_nil,List.map_cons,List.replicate,List.cons_append,List.nil_append];conv=>arg 2;whnf
 go_wp2_with fail
 refine(lN base M _ vs2 vo _ 1 1 h2).mono ?_
 rintro e w3 ⟨rfl,h3,k3⟩;go_wp2;go_end0
 exact⟨rfl,⟨_,_,h3⟩,k1.trans k3⟩
theorem JA (base M:Nat)(w:World)(vs vo:Value)(σ:St)(n:Int)(l:List Int)(a b:Int)(hs:σ.stack=l++[a,b])(hm:l.length<31)(hb:b≠0)(hT:bK w)(h:MS base M w vs vo σ):
  Calls Tryz.prog 150 #[.pointer (some ⟨M,0,none⟩),.int .u8 11,.int .u16 n] w (Out base M w {σ with stack:=l++[IntKind.u16.wrap (a.tdiv b)]}):=by
 have hft:=aP;have hb0:(b==0)=false:=by rw[beq_eq_false_iff_ne];exact hb
 go_in;refine bQ (ag Tryz.f150.body) (by kernel_rfl) ?_;go_wp2_with fail
 refine(Ac _ hT).mono ?_
 rintro e w1 ⟨rfl,c,rfl⟩;go_wp2_with fail
 refine(mF base M _ vs vo σ l a b hs (by omega) (h.alloc _)).mono ?_
 rintro e w2 ⟨rfl,⟨vs2,h2⟩,k2⟩;have k1:=(Kept.alloc (M:=M) w h.le (.cells c 176)).trans k2;clear k2;go_wp2_with fail
 refine eF _ (fun _ _ _ c=>c) _ _ _ _ 14 (by omega) (by omega) (fun Q' hQ'=>vt _ _ _ _ _ _ _ _ _ _ _ _ _ _ _ _ _ Q' hQ') ?_;refine dO (c:=(aC 20 (ai (ag Tryz.f150.body)) []).getD 13 .skip) (rest:=(aC 20 (ai (ag Tryz.f150.body)) []).drop 14) (by kernel_rfl) (fun K=> ?_);simp only[tl,List.map_nil,List.map_cons,List.replicate,List.cons_append,List.nil_append];conv=>arg 2;whnf
 go_wp2_with fail
 refine(eD base M _ vs2 vo _ ⟨w2.heap.size,0,none⟩ 1 1 [_] (h2.alloc _) (by omega) rfl (cell_one_new _ _ _) (by simp;omega)).mono ?_
 rintro e w3 ⟨rfl,⟨vs3,h3⟩,k3⟩;have k4:=k1.trans ((Kept.alloc (M:=M) w2 h2.le _).trans k3);go_wp2;go_end0
 exact⟨rfl,⟨_,_,h3⟩,k4⟩
theorem Bh (base M:Nat)(w:World)(vs vo:Value)(σ:St)(n:Int)(l:List Int)(a:Int)(hs:σ.stack=l++[a])(hm:l.length<32)(ha:(a==0)=false)(hT:bK w)(h:MS base M w vs vo σ):
  Calls Tryz.prog 150 #[.pointer (some ⟨M,0,none⟩),.int .u8 15,.int .u16 n] w (Out base M w {σ with stack:=l}):=by
 have hft:=aP;have ha1:(a !=0)=true:=by simp[bne,ha]
 go_in;refine bQ (ag Tryz.f150.body) (by kernel_rfl) ?_;go_wp2_with fail
 refine(Ad _ hT).mono ?_
 rintro e w1 ⟨rfl,c,rfl⟩;go_wp2_with fail
 refine(sB base M _ vs vo σ l a hs (by omega) (h.alloc _)).mono ?_
 rintro e w2 ⟨rfl,⟨vs2,h2⟩,k2⟩;have k1:=(Kept.alloc (M:=M) w h.le (.cells c 176)).trans k2;clear k2;go_wp2_with fail
 refine eF _ (fun _ _ _ c=>c) _ _ _ _ 15 (by omega) (by omega) (fun Q' hQ'=>vu _ _ _ _ _ _ _ _ _ _ _ _ _ _ _ _ _ Q' hQ') ?_;refine iT (c:=(aC 20 (ai (ag Tryz.f150.body)) []).getD 14 .skip) (d:=(aC 20 (ai (ag Tryz.f150.body)) []).getD 15 .skip) (rest:=(aC 20 (ai (ag Tryz.f150.body)) []).drop 16) (by kernel_rfl) (fun K hK=> ?_);simp only[tl,List.map_nil,List.map_cons,List.replicate,List.cons_append,List.nil_append];conv=>arg 2;whnf
 go_wp2;go_end0
 exact⟨rfl,⟨_,_,h2⟩,k1⟩
theorem Ku (base M:Nat)(w:World)(vs vo:Value)(σ:St)(n:Int)(l:List Int)(a:Int)(hs:σ.stack=l++[a])(hm:l.length<32)(ha:a=0)(hn:0≤n)(hn':n≤65535)(hT:bK w)(h:MS base M w vs vo σ):
  Calls Tryz.prog 150 #[.pointer (some ⟨M,0,none⟩),.int .u8 15,.int .u16 n] w (Out base M w {σ with stack:=l,next:=n}):=by
 have hft:=aP;have ha0:(a !=0)=false:=by simp[ha]
 clear ha;go_in;refine bQ (ag Tryz.f150.body) (by kernel_rfl) ?_;go_wp2_with fail
 refine(Ad _ hT).mono ?_
 rintro e w1 ⟨rfl,c,rfl⟩;go_wp2_with fail
 refine(sB base M _ vs vo σ l a hs (by omega) (h.alloc _)).mono ?_
 rintro e w2 ⟨rfl,⟨vs2,h2⟩,k2⟩;have k1:=(Kept.alloc (M:=M) w h.le (.cells c 176)).trans k2;clear k2;go_wp2_with fail
 refine eF _ (fun _ _ _ c=>c) _ _ _ _ 15 (by omega) (by omega) (fun Q' hQ'=>vu _ _ _ _ _ _ _ _ _ _ _ _ _ _ _ _ _ Q' hQ') ?_;refine iT (c:=(aC 20 (ai (ag Tryz.f150.body)) []).getD 14 .skip) (d:=(aC 20 (ai (ag Tryz.f150.body)) []).getD 15 .skip) (rest:=(aC 20 (ai (ag Tryz.f150.body)) []).drop 16) (by kernel_rfl) (fun K hK=> ?_);simp only[tl,List.map_nil,List.map_cons,List.replicate,List.cons_append,List.nil_append];conv=>arg 2;whnf
 go_wp2_with fail
 intro K';conv=>arg 2;whnf
 have c19:=h2.cell 19 (by omega);rw[k9]at c19;have f19:=h2.thaw 19;have R:=h2.lM n;have K19:=k1.trans (Kept.set base M w2 19 (.int .i64 n));go_wp2;go_end0
 exact⟨rfl,⟨_,_,R⟩,K19⟩
theorem GA (base M:Nat)(w:World)(vs vo:Value)(σ:St)(n:Int)(hm:σ.stack.length≤32)(hn:0≤n)(hn':n≤65535)(hT:bK w)(h:MS base M w vs vo σ):
  Calls Tryz.prog 150 #[.pointer (some ⟨M,0,none⟩),.int .u8 14,.int .u16 n] w (Out base M w {σ with next:=n}):=by
 have hft:=aP;go_in;refine bQ (ag Tryz.f150.body) (by kernel_rfl) ?_;go_wp2_with fail
 refine(Gm _ hT).mono ?_
 rintro e w1 ⟨rfl,c,rfl⟩;go_wp2_with fail
 refine(take_zero base M _ vs vo σ (by omega) (h.alloc _)).mono ?_
 rintro e w2 ⟨rfl,⟨vs2,h2⟩,k2⟩;have k1:=(Kept.alloc (M:=M) w h.le (.cells c 176)).trans k2;clear k2;go_wp2_with fail
 refine eF _ (fun _ _ _ c=>c) _ _ _ _ 16 (by omega) (by omega) (fun Q' hQ'=>Dv _ _ _ _ _ _ _ _ _ _ _ _ _ _ _ _ _ Q' hQ') ?_;refine dO (c:=(aC 20 (ai (ag Tryz.f150.body)) []).getD 15 .skip) (rest:=(aC 20 (ai (ag Tryz.f150.body)) []).drop 16) (by kernel_rfl) (fun K=> ?_);simp only[tl,List.map_nil,List.map_cons,List.replicate,List.cons_append,List.nil_append];conv=>arg 2;whnf
 have c19:=h2.cell 19 (by omega);rw[k9]at c19;have f19:=h2.thaw 19;have R:=h2.lM n;have K19:=k1.trans (Kept.set base M w2 19 (.int .i64 n));go_wp2;go_end0
 exact⟨rfl,⟨_,_,R⟩,K19⟩
theorem GB (base M:Nat)(w:World)(vs vo:Value)(σ:St)(n:Int)(hm:σ.stack.length<32)(k:Nat)(hk:k<16)(hn:n=(k:Int))(hT:bK w)(h:MS base M w vs vo σ):
  Calls Tryz.prog 150 #[.pointer (some ⟨M,0,none⟩),.int .u8 16,.int .u16 n] w (Out base M w {σ with stack:=σ.stack++[σ.cells k]}):=by
 have hft:=aP;subst hn;have hk1:(k:Int)<16:=by omega
 have hk0:(0:Int)≤(k:Int):=by omega
 go_in;refine bQ (ag Tryz.f150.body) (by kernel_rfl) ?_;go_wp2_with fail
 refine(Gn _ hT).mono ?_
 rintro e w1 ⟨rfl,c,rfl⟩;go_wp2_with fail
 refine(take_zero base M _ vs vo σ (by omega) (h.alloc _)).mono ?_
 rintro e w2 ⟨rfl,⟨vs2,h2⟩,k2⟩;have k1:=(Kept.alloc (M:=M) w h.le (.cells c 176)).trans k2;clear k2;go_wp2_with fail
 refine eF _ (fun _ _ _ c=>c) _ _ _ _ 17 (by omega) (by omega) (fun Q' hQ'=>Dw _ _ _ _ _ _ _ _ _ _ _ _ _ _ _ _ _ Q' hQ') ?_;refine dO (c:=(aC 20 (ai (ag Tryz.f150.body)) []).getD 16 .skip) (rest:=(aC 20 (ai (ag Tryz.f150.body)) []).drop 17) (by kernel_rfl) (fun K=> ?_);simp only[tl,List.map_nil,List.map_cons,List.replicate,List.cons_append,List.nil_append];conv=>arg 2;whnf
 have ck:=h2.cell (1+k) (by omega);have ek:ig vs2 vo σ (1+k)=.int .u16 (σ.cells k):=by
  unfold ig;rw[if_neg (by omega),if_pos (by omega)];congr 2;omega
 rw[ek]at ck;clear ek;go_wp2_with fail
 refine(eD base M _ vs2 vo _ ⟨w2.heap.size,0,none⟩ 1 1 [_] (h2.alloc _) (by omega) rfl (cell_one_new _ _ _) (by simp;omega)).mono ?_
 rintro e w3 ⟨rfl,⟨vs3,h3⟩,k3⟩;have k4:=k1.trans ((Kept.alloc (M:=M) w2 h2.le _).trans k3);go_wp2;go_end0
 exact⟨rfl,⟨_,_,h3⟩,k4⟩
theorem DC (base M:Nat)(w:World)(vs vo:Value)(σ:St)(n:Int)(l:List Int)(a:Int)(hs:σ.stack=l++[a])(hm:l.length<32)(k:Nat)(hk:k<16)(hn:n=(k:Int))(hT:bK w)(h:MS base M w vs vo σ):
  Calls Tryz.prog 150 #[.pointer (some ⟨M,0,none⟩),.int .u8 17,.int .u16 n] w (Out base M w {σ with stack:=l,cells:=fun i=>if i=k then a else σ.cells i}):=by
 have hft:=aP;subst hn;have hk1:(k:Int)<16:=by omega
 have hk0:(0:Int)≤(k:Int):=by omega
 go_in;refine bQ (ag Tryz.f150.body) (by kernel_rfl) ?_;go_wp2_with fail
 refine(Gp _ hT).mono ?_
 rintro e w1 ⟨rfl,c,rfl⟩;go_wp2_with fail
 refine(sB base M _ vs vo σ l a hs (by omega) (h.alloc _)).mono ?_
 rintro e w2 ⟨rfl,⟨vs2,h2⟩,k2⟩;have k1:=(Kept.alloc (M:=M) w h.le (.cells c 176)).trans k2;clear k2;go_wp2_with fail
 refine eF _ (fun _ _ _ c=>c) _ _ _ _ 18 (by omega) (by omega) (fun Q' hQ'=>Dx _ _ _ _ _ _ _ _ _ _ _ _ _ _ _ _ _ Q' hQ') ?_;refine dO (c:=(aC 20 (ai (ag Tryz.f150.body)) []).getD 17 .skip) (rest:=(aC 20 (ai (ag Tryz.f150.body)) []).drop 18) (by kernel_rfl) (fun K=> ?_);simp only[tl,List.map_nil,List.map_cons,List.replicate,List.cons_append,List.nil_append];conv=>arg 2;whnf
 have ck:=h2.cell (1+k) (by omega);have fk:=h2.thaw (1+k);have R:=h2.setCells k hk a;have KK:=k1.trans (Kept.set base M w2 (1+k) (.int .u16 a));go_wp2;go_end0
 exact⟨rfl,⟨_,_,R⟩,KK⟩
theorem JB (base M:Nat)(w:World)(vs vo:Value)(σ:St)(n:Int)(l:List Int)(a:Int)(hs:σ.stack=l++[a])(hm:l.length<32)(ho:σ.out.length≤16)(hT:bK w)(h:MS base M w vs vo σ):
  Calls Tryz.prog 150 #[.pointer (some ⟨M,0,none⟩),.int .u8 18,.int .u16 n] w (Out base M w (vn {σ with stack:=l} (IntKind.u8.wrap a))):=by
 have hft:=aP;go_in;refine bQ (ag Tryz.f150.body) (by kernel_rfl) ?_;go_wp2_with fail
 refine(Gq _ hT).mono ?_
 rintro e w1 ⟨rfl,c,rfl⟩;go_wp2_with fail
 refine(sB base M _ vs vo σ l a hs (by omega) (h.alloc _)).mono ?_
 rintro e w2 ⟨rfl,⟨vs2,h2⟩,k2⟩;have k1:=(Kept.alloc (M:=M) w h.le (.cells c 176)).trans k2;clear k2;go_wp2_with fail
 refine eF _ (fun _ _ _ c=>c) _ _ _ _ 19 (by omega) (by omega) (fun Q' hQ'=>Dy _ _ _ _ _ _ _ _ _ _ _ _ _ _ _ _ _ Q' hQ') ?_;refine dO (c:=(aC 20 (ai (ag Tryz.f150.body)) []).getD 18 .skip) (rest:=(aC 20 (ai (ag Tryz.f150.body)) []).drop 19) (by kernel_rfl) (fun K=> ?_);simp only[tl,List.map_nil,List.map_cons,List.replicate,List.cons_append,List.nil_append];conv=>arg 2;whnf
 go_wp2_with fail
 refine(G8 base M _ vs2 vo _ _ h2 (by exact ho)).mono ?_
 rintro e w3 ⟨rfl,⟨vo3,h3⟩,k3⟩;go_wp2;go_end0
 exact⟨rfl,⟨_,_,h3⟩,k1.trans k3⟩
theorem GC (base M:Nat)(w:World)(vs vo:Value)(σ:St)(n:Int)(l:List Int)(a:Int)(hs:σ.stack=l++[a])(hm:l.length<32)(hT:bK w)(h:MS base M w vs vo σ):
  Calls Tryz.prog 150 #[.pointer (some ⟨M,0,none⟩),.int .u8 4,.int .u16 n] w (Out base M w {σ with stack:=l}):=by
 have hft:=aP;go_in;refine bQ (ag Tryz.f150.body) (by kernel_rfl) ?_;go_wp2_with fail
 refine(Jo _ hT).mono ?_
 rintro e w1 ⟨rfl,c,rfl⟩;go_wp2_with fail
 refine(sB base M _ vs vo σ l a hs (by omega) (h.alloc _)).mono ?_
 rintro e w2 ⟨rfl,⟨vs2,h2⟩,k2⟩;have k1:=(Kept.alloc (M:=M) w h.le (.cells c 176)).trans k2;clear k2;go_wp2_with fail
 refine eF _ (fun _ _ _ c=>c) _ _ _ _ 20 (by omega) (by omega) (fun Q' hQ'=>Gi _ _ _ _ _ _ _ _ _ _ _ _ _ _ _ _ _ Q' hQ') ?_;refine dO (c:=(aC 20 (ai (ag Tryz.f150.body)) []).getD 19 .skip) (rest:=(aC 20 (ai (ag Tryz.f150.body)) []).drop 20) (by kernel_rfl) (fun K=> ?_);simp only[tl,List.map_nil,List.map_cons,List.replicate,List.cons_append,List.nil_append];conv=>arg 2;whnf
 go_wp2;go_end0
 exact⟨rfl,⟨_,_,h2⟩,k1⟩
theorem vv (base M:Nat)(w:World)(vs vo:Value)(σ:St)(n:Int)(hm:σ.stack.length≤32)(hT:bK w)(h:MS base M w vs vo σ):
  Calls Tryz.prog 150 #[.pointer (some ⟨M,0,none⟩),.int .u8 20,.int .u16 n] w (Out base M w σ):=by
 have hft:=aP;go_in;refine bQ (ag Tryz.f150.body) (by kernel_rfl) ?_;go_wp2_with fail
 refine(Ae _ hT).mono ?_
 rintro e w1 ⟨rfl,c,rfl⟩;go_wp2_with fail
 refine(take_zero base M _ vs vo σ (by omega) (h.alloc _)).mono ?_
 rintro e w2 ⟨rfl,⟨vs2,h2⟩,k2⟩;have k1:=(Kept.alloc (M:=M) w h.le (.cells c 176)).trans k2;clear k2;go_wp2_with fail
 refine eF _ (fun _ _ _ c=>c) _ _ _ _ 20 (by omega) (by omega) (fun Q' hQ'=>Dz _ _ _ _ _ _ _ _ _ _ _ _ _ _ _ _ _ Q' hQ') ?_;refine dO (c:=(aC 20 (ai (ag Tryz.f150.body)) []).getD 19 .skip) (rest:=(aC 20 (ai (ag Tryz.f150.body)) []).drop 20) (by kernel_rfl) (fun K=> ?_);simp only[tl,List.map_nil,List.map_cons,List.replicate,List.cons_append,List.nil_append];conv=>arg 2;whnf
 go_wp2;go_end0
 exact⟨rfl,⟨_,_,h2⟩,k1⟩
end Go.Proofs.YtmpgjkhchfcjlaaGreatDoor
