import Derived.Test.YtmpgjkhchfcjlaaGreatDoorM00
import Derived.Lib.Strings
namespace Go.Proofs.YtmpgjkhchfcjlaaGreatDoor
open Go.RowKit
set_option maxRecDepth 100000
theorem Be (base M:Nat)(w:World)(vs vo:Value)(σ:St)(h:MS base M w vs vo σ)(he:σ.input.size=0):
  Calls Tryz.prog 182 #[.pointer (some ⟨M,0,none⟩)] w fun e w'=>e=.returned (.int .u16 256)∧w'=w:=by
 have c0:=h.cell 17 (by omega);rw[vg]at c0;have hE:σ.input.toList.isEmpty=true:=by
  rw[Lib.toList_data]
  have:=Lib.size_eq σ.input
  rw[List.isEmpty_iff];exact List.eq_nil_of_length_eq_zero (by omega)
 go_in;go_wp2;go_ret
 exact⟨rfl,rfl⟩
theorem Bf (base M:Nat)(w:World)(vs vo:Value)(σ:St)(h:MS base M w vs vo σ)(hm:σ.input.size≤24)(he:0<σ.input.size):
  Calls Tryz.prog 182 #[.pointer (some ⟨M,0,none⟩)] w fun e w'=>e=.returned (.int .u16 (σ.input[0]'he).toNat)∧MS base M w' vs vo {σ with input:=σ.input.extract 1 σ.input.size}∧Kept base M w w':=by
 have c0:=h.cell 17 (by omega);rw[vg]at c0;have f0:=h.thaw 17;have R:=h.setInput (σ.input.extract 1 σ.input.size);have K:=Kept.set base M w 17 (.string (σ.input.extract 1 σ.input.size));have hE:σ.input.toList.isEmpty=false:=by
  rw[Lib.toList_data]
  have:=Lib.size_eq σ.input
  rw[List.isEmpty_eq_false_iff];intro c;have h2:σ.input.size=0:=by rw[this,c];rfl
  omega
 have hb8:((σ.input[0]'he).toNat:Int)≤255:=by have:=(σ.input[0]'he).toNat_lt;omega
 go_in;go_wp2;go_ret
 exact⟨rfl,R,K⟩
def nest (T:Code)(i:Nat):List Code→Code
 |[]=>T
 |c::cs=>nest (.seq (.block i T) c) (i+1) cs
def runs (P:Program)(Q:Exit→Act→World→Prop):List Code→Act→World→Prop
 |[]=>Q .normal
 |c::cs=>c.wp P (Exit.then (runs P Q cs) Q)
theorem Dq (P:Program)(Q:Exit→Act→World→Prop)(hQ:∀k a w,k≠0→¬Q (.exit k) a w):∀(cs:List Code) (X:Code) (i:Nat) (a:Act) (w:World),0<i→
  X.wp P (Exit.then (runs P Q cs) Q) a w→(nest X i cs).wp P Q a w:=by
 intro cs;induction cs with
 |nil=>
  intro X i a w _ h;exact wp_mono h (fun e a w q=>by cases e<;>exact q)
 |cons c cs ih=>
  intro X i a w hi h;refine ih _ (i+1) a w (by omega) (wp_seq (wp_block (wp_mono h ?_)));intro e a w q
  cases e with
  |exit k=>
   have hk:=Classical.byContradiction fun c=>hQ k a w c q
   subst hk
   show(if 0=i then _ else _)
   rw[if_neg (by omega)];exact q
  |normal=>exact q
  |goto l=>exact q
  |ret=>exact q
  |panic ch=>exact q
  |outgrown=>exact q
theorem G9 (P:Program)(Q:Exit→Act→World→Prop)(hQ:∀k a w,k≠0→¬Q (.exit k) a w)(a1:Act)(w1:World)(j:Nat):∀(cs:List Code) (T:Code) (i:Nat) (a:Act) (w:World),0<i→i≤j→j<i+cs.length→
  (∀Q':Exit→Act→World→Prop,Q' (.exit j) a1 w1→T.wp P Q' a w)→runs P Q (cs.drop (j-i)) a1 w1→(nest T i cs).wp P Q a w:=by
 intro cs;induction cs with
 |nil=>intro T i a w _ h1 h2;simp at h2;omega
 |cons c cs ih=>
  intro T i a w hi h1 h2 hT hC;by_cases e:j=i
  ·subst e;refine Dq P Q hQ cs _ (j+1) a w (by omega) (wp_seq (wp_block (hT _ ?_)))
   show(if j=j then _ else _)
   rw[if_pos rfl];rw[Nat.sub_self]at hC;exact hC
  ·refine ih _ (i+1) a w (by omega) (by omega) (by simp at h2;omega) ?_ ?_
   ·intro Q' hq;refine wp_seq (wp_block (hT _ ?_))
    show(if j=i then _ else _)
    rw[if_neg e];exact hq
   ·have e2:j-i=(j-(i+1))+1:=(by omega);rw[e2]at hC;exact hC
def ag:Option Code→Code
 |some (.seq _ (.seq _ c))=>c
 |_=>.skip
def ai:Code→Code
 | .block _ c=>c
 |_=>.skip
def aC:Nat→Code→List Code→List Code
 |0,_,l=>l
 |n+1,.seq (.block _ x) c,l=>aC n x (c::l)
 |_+1,_,l=>l
def bP:Nat→Code→Code
 |0,x=>x
 |n+1,.seq (.block _ x) _=>bP n x
 |_+1,x=>x
theorem Bg:(ag Tryz.f150.body)=.block 0 (nest (bP 20 (ai (ag Tryz.f150.body))) 1 (aC 20 (ai (ag Tryz.f150.body)) [])):=by kernel_rfl
theorem vr:(aC 20 (ai (ag Tryz.f150.body)) []).length=20:=by kernel_rfl
theorem eF (Q:Exit→Act→World→Prop)(hQ:∀k a w,¬Q (.exit k) a w)(a a1:Act)(w w1:World)(j:Nat)(h1:1≤j)(h2:j≤20)
  (hT:∀Q':Exit→Act→World→Prop,Q' (.exit j) a1 w1→(bP 20 (ai (ag Tryz.f150.body))).wp Tryz.prog Q' a w)(hC:runs Tryz.prog (Exit.inBlock 0 Q) ((aC 20 (ai (ag Tryz.f150.body)) []).drop (j-1)) a1 w1):(ag Tryz.f150.body).wp Tryz.prog Q a w:=by
 rw[Bg];refine wp_block (G9 Tryz.prog _ ?_ a1 w1 j (aC 20 (ai (ag Tryz.f150.body)) []) (bP 20 (ai (ag Tryz.f150.body))) 1 a w (by omega) h1 (by rw[vr];omega) hT hC);intro k a w hk;show ¬(if k=0 then _ else _);rw[if_neg hk];exact hQ k a w
def tl (v0 v1 v2 v3 v4 v5 v6 v7 v8 v9 v10 v11 v12 v13 v14 v15:Value)(k:Int)(bs:List Bool)(n:Nat):Act:=⟨([v0,v1,v2,v3,v4,v5,v6,v7,v8,v9,v10,v11,v12,v13,v14,v15,.int .u8 k]++bs.map Value.bool++List.replicate n undef).toArray,[]⟩
section
variable (v0 v1 v2 v3 v4 v5 v6 v7 v8 v9 v10 v11 v12 v13 v14 v15:Value) (w:World) (Q':Exit→Act→World→Prop)
theorem Ga (h:Q' (.exit 1) (tl v0 v1 v2 v3 v4 v5 v6 v7 v8 v9 v10 v11 v12 v13 v14 v15 0 [true,true] 130) w):(bP 20 (ai (ag Tryz.f150.body))).wp Tryz.prog Q' (tl v0 v1 v2 v3 v4 v5 v6 v7 v8 v9 v10 v11 v12 v13 v14 v15 0 [] 132) w:=by
 simp only[tl,List.map_nil,List.map_cons,List.replicate,List.cons_append,List.nil_append,List.append_nil]at h⊢;conv=>arg 2;whnf
 go_wp2;exact h
theorem Dr (h:Q' (.exit 2) (tl v0 v1 v2 v3 v4 v5 v6 v7 v8 v9 v10 v11 v12 v13 v14 v15 19 [false,false,true,true] 128) w):(bP 20 (ai (ag Tryz.f150.body))).wp Tryz.prog Q' (tl v0 v1 v2 v3 v4 v5 v6 v7 v8 v9 v10 v11 v12 v13 v14 v15 19 [] 132) w:=by
 simp only[tl,List.map_nil,List.map_cons,List.replicate,List.cons_append,List.nil_append,List.append_nil]at h⊢;conv=>arg 2;whnf
 go_wp2;exact h
theorem Ab (h:Q' (.exit 3) (tl v0 v1 v2 v3 v4 v5 v6 v7 v8 v9 v10 v11 v12 v13 v14 v15 2 [false,false,false,false,true,true] 126) w):(bP 20 (ai (ag Tryz.f150.body))).wp Tryz.prog Q' (tl v0 v1 v2 v3 v4 v5 v6 v7 v8 v9 v10 v11 v12 v13 v14 v15 2 [] 132) w:=by
 simp only[tl,List.map_nil,List.map_cons,List.replicate,List.cons_append,List.nil_append,List.append_nil]at h⊢;conv=>arg 2;whnf
 go_wp2;exact h
theorem Gb (h:Q' (.exit 4) (tl v0 v1 v2 v3 v4 v5 v6 v7 v8 v9 v10 v11 v12 v13 v14 v15 1 [false,false,false,false,false,false,true,true] 124) w):(bP 20 (ai (ag Tryz.f150.body))).wp Tryz.prog Q' (tl v0 v1 v2 v3 v4 v5 v6 v7 v8 v9 v10 v11 v12 v13 v14 v15 1 [] 132) w:=by
 simp only[tl,List.map_nil,List.map_cons,List.replicate,List.cons_append,List.nil_append,List.append_nil]at h⊢;conv=>arg 2;whnf
 go_wp2;exact h
theorem Gc (h:Q' (.exit 5) (tl v0 v1 v2 v3 v4 v5 v6 v7 v8 v9 v10 v11 v12 v13 v14 v15 3 [false,false,false,false,false,false,false,false,true,true] 122) w):(bP 20 (ai (ag Tryz.f150.body))).wp Tryz.prog Q' (tl v0 v1 v2 v3 v4 v5 v6 v7 v8 v9 v10 v11 v12 v13 v14 v15 3 [] 132) w:=by
 simp only[tl,List.map_nil,List.map_cons,List.replicate,List.cons_append,List.nil_append,List.append_nil]at h⊢;conv=>arg 2;whnf
 go_wp2;exact h
theorem Gd (h:Q' (.exit 6) (tl v0 v1 v2 v3 v4 v5 v6 v7 v8 v9 v10 v11 v12 v13 v14 v15 5 [false,false,false,false,false,false,false,false,false,false,true,true] 120) w):(bP 20 (ai (ag Tryz.f150.body))).wp Tryz.prog Q' (tl v0 v1 v2 v3 v4 v5 v6 v7 v8 v9 v10 v11 v12 v13 v14 v15 5 [] 132) w:=by
 simp only[tl,List.map_nil,List.map_cons,List.replicate,List.cons_append,List.nil_append,List.append_nil]at h⊢;conv=>arg 2;whnf
 go_wp2;exact h
theorem Ge (h:Q' (.exit 7) (tl v0 v1 v2 v3 v4 v5 v6 v7 v8 v9 v10 v11 v12 v13 v14 v15 7 [false,false,false,false,false,false,false,false,false,false,false,false,true,true] 118) w):(bP 20 (ai (ag Tryz.f150.body))).wp Tryz.prog Q' (tl v0 v1 v2 v3 v4 v5 v6 v7 v8 v9 v10 v11 v12 v13 v14 v15 7 [] 132) w:=by
 simp only[tl,List.map_nil,List.map_cons,List.replicate,List.cons_append,List.nil_append,List.append_nil]at h⊢;conv=>arg 2;whnf
 go_wp2;exact h
theorem Gf (h:Q' (.exit 8) (tl v0 v1 v2 v3 v4 v5 v6 v7 v8 v9 v10 v11 v12 v13 v14 v15 6 [false,false,false,false,false,false,false,false,false,false,false,false,false,false,true,true] 116) w):(bP 20 (ai (ag Tryz.f150.body))).wp Tryz.prog Q' (tl v0 v1 v2 v3 v4 v5 v6 v7 v8 v9 v10 v11 v12 v13 v14 v15 6 [] 132) w:=by
 simp only[tl,List.map_nil,List.map_cons,List.replicate,List.cons_append,List.nil_append,List.append_nil]at h⊢;conv=>arg 2;whnf
 go_wp2;exact h
theorem Gg (h:Q' (.exit 9) (tl v0 v1 v2 v3 v4 v5 v6 v7 v8 v9 v10 v11 v12 v13 v14 v15 8 [false,false,false,false,false,false,false,false,false,false,false,false,false,false,false,false,true,true] 114) w):(bP 20 (ai (ag Tryz.f150.body))).wp Tryz.prog Q' (tl v0 v1 v2 v3 v4 v5 v6 v7 v8 v9 v10 v11 v12 v13 v14 v15 8 [] 132) w:=by
 simp only[tl,List.map_nil,List.map_cons,List.replicate,List.cons_append,List.nil_append,List.append_nil]at h⊢;conv=>arg 2;whnf
 go_wp2;exact h
theorem Gh (h:Q' (.exit 10) (tl v0 v1 v2 v3 v4 v5 v6 v7 v8 v9 v10 v11 v12 v13 v14 v15 9 [false,false,false,false,false,false,false,false,false,false,false,false,false,false,false,false,false,false,true,true] 112) w):(bP 20 (ai (ag Tryz.f150.body))).wp Tryz.prog Q' (tl v0 v1 v2 v3 v4 v5 v6 v7 v8 v9 v10 v11 v12 v13 v14 v15 9 [] 132) w:=by
 simp only[tl,List.map_nil,List.map_cons,List.replicate,List.cons_append,List.nil_append,List.append_nil]at h⊢;conv=>arg 2;whnf
 go_wp2;exact h
theorem Ds (h:Q' (.exit 11) (tl v0 v1 v2 v3 v4 v5 v6 v7 v8 v9 v10 v11 v12 v13 v14 v15 12 [false,false,false,false,false,false,false,false,false,false,false,false,false,false,false,false,false,false,false,false,true,true] 110) w):(bP 20 (ai (ag Tryz.f150.body))).wp Tryz.prog Q' (tl v0 v1 v2 v3 v4 v5 v6 v7 v8 v9 v10 v11 v12 v13 v14 v15 12 [] 132) w:=by
 simp only[tl,List.map_nil,List.map_cons,List.replicate,List.cons_append,List.nil_append,List.append_nil]at h⊢;conv=>arg 2;whnf
 go_wp2;exact h
theorem Dt (h:Q' (.exit 12) (tl v0 v1 v2 v3 v4 v5 v6 v7 v8 v9 v10 v11 v12 v13 v14 v15 13 [false,false,false,false,false,false,false,false,false,false,false,false,false,false,false,false,false,false,false,false,false,false,true,true] 108) w):(bP 20 (ai (ag Tryz.f150.body))).wp Tryz.prog Q' (tl v0 v1 v2 v3 v4 v5 v6 v7 v8 v9 v10 v11 v12 v13 v14 v15 13 [] 132) w:=by
 simp only[tl,List.map_nil,List.map_cons,List.replicate,List.cons_append,List.nil_append,List.append_nil]at h⊢;conv=>arg 2;whnf
 go_wp2;exact h
theorem Du (h:Q' (.exit 13) (tl v0 v1 v2 v3 v4 v5 v6 v7 v8 v9 v10 v11 v12 v13 v14 v15 10 [false,false,false,false,false,false,false,false,false,false,false,false,false,false,false,false,false,false,false,false,false,false,false,false,true,true] 106) w):(bP 20 (ai (ag Tryz.f150.body))).wp Tryz.prog Q' (tl v0 v1 v2 v3 v4 v5 v6 v7 v8 v9 v10 v11 v12 v13 v14 v15 10 [] 132) w:=by
 simp only[tl,List.map_nil,List.map_cons,List.replicate,List.cons_append,List.nil_append,List.append_nil]at h⊢;conv=>arg 2;whnf
 go_wp2;exact h
theorem vt (h:Q' (.exit 14) (tl v0 v1 v2 v3 v4 v5 v6 v7 v8 v9 v10 v11 v12 v13 v14 v15 11 [false,false,false,false,false,false,false,false,false,false,false,false,false,false,false,false,false,false,false,false,false,false,false,false,false,false,true,true] 104) w):(bP 20 (ai (ag Tryz.f150.body))).wp Tryz.prog Q' (tl v0 v1 v2 v3 v4 v5 v6 v7 v8 v9 v10 v11 v12 v13 v14 v15 11 [] 132) w:=by
 simp only[tl,List.map_nil,List.map_cons,List.replicate,List.cons_append,List.nil_append,List.append_nil]at h⊢;conv=>arg 2;whnf
 go_wp2;exact h
theorem vu (h:Q' (.exit 15) (tl v0 v1 v2 v3 v4 v5 v6 v7 v8 v9 v10 v11 v12 v13 v14 v15 15 [false,false,false,false,false,false,false,false,false,false,false,false,false,false,false,false,false,false,false,false,false,false,false,false,false,false,false,false,true,true] 102) w):(bP 20 (ai (ag Tryz.f150.body))).wp Tryz.prog Q' (tl v0 v1 v2 v3 v4 v5 v6 v7 v8 v9 v10 v11 v12 v13 v14 v15 15 [] 132) w:=by
 simp only[tl,List.map_nil,List.map_cons,List.replicate,List.cons_append,List.nil_append,List.append_nil]at h⊢;conv=>arg 2;whnf
 go_wp2;exact h
theorem Dv (h:Q' (.exit 16) (tl v0 v1 v2 v3 v4 v5 v6 v7 v8 v9 v10 v11 v12 v13 v14 v15 14 [false,false,false,false,false,false,false,false,false,false,false,false,false,false,false,false,false,false,false,false,false,false,false,false,false,false,false,false,false,false,true,true] 100) w):(bP 20 (ai (ag Tryz.f150.body))).wp Tryz.prog Q' (tl v0 v1 v2 v3 v4 v5 v6 v7 v8 v9 v10 v11 v12 v13 v14 v15 14 [] 132) w:=by
 simp only[tl,List.map_nil,List.map_cons,List.replicate,List.cons_append,List.nil_append,List.append_nil]at h⊢;conv=>arg 2;whnf
 go_wp2;exact h
theorem Dw (h:Q' (.exit 17) (tl v0 v1 v2 v3 v4 v5 v6 v7 v8 v9 v10 v11 v12 v13 v14 v15 16 [false,false,false,false,false,false,false,false,false,false,false,false,false,false,false,false,false,false,false,false,false,false,false,false,false,false,false,false,false,false,false,false,true,true] 98) w):(bP 20 (ai (ag Tryz.f150.body))).wp Tryz.prog Q' (tl v0 v1 v2 v3 v4 v5 v6 v7 v8 v9 v10 v11 v12 v13 v14 v15 16 [] 132) w:=by
 simp only[tl,List.map_nil,List.map_cons,List.replicate,List.cons_append,List.nil_append,List.append_nil]at h⊢;conv=>arg 2;whnf
 go_wp2;exact h
theorem Dx (h:Q' (.exit 18) (tl v0 v1 v2 v3 v4 v5 v6 v7 v8 v9 v10 v11 v12 v13 v14 v15 17 [false,false,false,false,false,false,false,false,false,false,false,false,false,false,false,false,false,false,false,false,false,false,false,false,false,false,false,false,false,false,false,false,false,false,true,true] 96) w):(bP 20 (ai (ag Tryz.f150.body))).wp Tryz.prog Q' (tl v0 v1 v2 v3 v4 v5 v6 v7 v8 v9 v10 v11 v12 v13 v14 v15 17 [] 132) w:=by
 simp only[tl,List.map_nil,List.map_cons,List.replicate,List.cons_append,List.nil_append,List.append_nil]at h⊢;conv=>arg 2;whnf
 go_wp2;exact h
theorem Dy (h:Q' (.exit 19) (tl v0 v1 v2 v3 v4 v5 v6 v7 v8 v9 v10 v11 v12 v13 v14 v15 18 [false,false,false,false,false,false,false,false,false,false,false,false,false,false,false,false,false,false,false,false,false,false,false,false,false,false,false,false,false,false,false,false,false,false,false,false,true,true] 94) w):(bP 20 (ai (ag Tryz.f150.body))).wp Tryz.prog Q' (tl v0 v1 v2 v3 v4 v5 v6 v7 v8 v9 v10 v11 v12 v13 v14 v15 18 [] 132) w:=by
 simp only[tl,List.map_nil,List.map_cons,List.replicate,List.cons_append,List.nil_append,List.append_nil]at h⊢;conv=>arg 2;whnf
 go_wp2;exact h
theorem Gi (h:Q' (.exit 20) (tl v0 v1 v2 v3 v4 v5 v6 v7 v8 v9 v10 v11 v12 v13 v14 v15 4 [false,false,false,false,false,false,false,false,false,false,false,false,false,false,false,false,false,false,false,false,false,false,false,false,false,false,false,false,false,false,false,false,false,false,false,false,false,false,true,true] 92) w):(bP 20 (ai (ag Tryz.f150.body))).wp Tryz.prog Q' (tl v0 v1 v2 v3 v4 v5 v6 v7 v8 v9 v10 v11 v12 v13 v14 v15 4 [] 132) w:=by
 simp only[tl,List.map_nil,List.map_cons,List.replicate,List.cons_append,List.nil_append,List.append_nil]at h⊢;conv=>arg 2;whnf
 go_wp2;exact h
theorem Dz (h:Q' (.exit 20) (tl v0 v1 v2 v3 v4 v5 v6 v7 v8 v9 v10 v11 v12 v13 v14 v15 20 [false,false,false,false,false,false,false,false,false,false,false,false,false,false,false,false,false,false,false,false,false,false,false,false,false,false,false,false,false,false,false,false,false,false,false,false,false,false,true,false,true] 91) w):(bP 20 (ai (ag Tryz.f150.body))).wp Tryz.prog Q' (tl v0 v1 v2 v3 v4 v5 v6 v7 v8 v9 v10 v11 v12 v13 v14 v15 20 [] 132) w:=by
 simp only[tl,List.map_nil,List.map_cons,List.replicate,List.cons_append,List.nil_append,List.append_nil]at h⊢;conv=>arg 2;whnf
 go_wp2;exact h
end
def Out (base M:Nat)(w:World)(σ':St)(e:Ending)(w':World):Prop:=e=.returned (.tuple #[])∧(∃vs vo,MS base M w' vs vo σ')∧Kept base M w w'
theorem mF (base M:Nat)(w:World)(vs vo:Value)(σ:St)(l:List Int)(a b:Int)(hs:σ.stack=l++[a,b])(hm:l.length<32)(h:MS base M w vs vo σ):
  Calls Tryz.prog 181 #[.pointer (some ⟨M,0,none⟩),.int .i64 2] w fun e w'=>e=.returned (.tuple #[.int .u16 a,.int .u16 b])∧(∃vs',MS base M w' vs' vo {σ with stack:=l})∧Kept base M w w':=by
 have:=Dp base M w vs vo σ l.length (by simp[hs]) hm h
 simpa[hs]using this
theorem sB (base M:Nat)(w:World)(vs vo:Value)(σ:St)(l:List Int)(a:Int)(hs:σ.stack=l++[a])(hm:l.length<32)(h:MS base M w vs vo σ):
  Calls Tryz.prog 181 #[.pointer (some ⟨M,0,none⟩),.int .i64 1] w fun e w'=>e=.returned (.tuple #[.int .u16 a,.int .u16 0])∧(∃vs',MS base M w' vs' vo {σ with stack:=l})∧Kept base M w w':=by
 have:=take_one base M w vs vo σ l.length (by simp[hs]) hm h
 simpa[hs]using this
theorem aP (s t l:Int)(w:World):(Instr.field 176 (.agg #[.int .i64 s,.int .i64 t,.int .i64 l]) 1).run Tryz.prog w=.ok (.int .i64 t) w:=by kernel_rfl
theorem Jl (w:World)(hT:bK w):Calls Tryz.prog 112 #[.int .u8 0] w fun e w'=>e=.returned (.agg #[.int .i64 1,.int .i64 0,.int .i64 0])∧∃c,w'=w.alloc (.cells c 176):=ak 0 (by omega) w hT
theorem Jm (w:World)(hT:bK w):Calls Tryz.prog 112 #[.int .u8 1] w fun e w'=>e=.returned (.agg #[.int .i64 2,.int .i64 0,.int .i64 1])∧∃c,w'=w.alloc (.cells c 176):=ak 1 (by omega) w hT
theorem DA (w:World)(hT:bK w):Calls Tryz.prog 112 #[.int .u8 2] w fun e w'=>e=.returned (.agg #[.int .i64 1,.int .i64 0,.int .i64 1])∧∃c,w'=w.alloc (.cells c 176):=ak 2 (by omega) w hT
theorem Jn (w:World)(hT:bK w):Calls Tryz.prog 112 #[.int .u8 3] w fun e w'=>e=.returned (.agg #[.int .i64 1,.int .i64 1,.int .i64 2])∧∃c,w'=w.alloc (.cells c 176):=ak 3 (by omega) w hT
theorem Jo (w:World)(hT:bK w):Calls Tryz.prog 112 #[.int .u8 4] w fun e w'=>e=.returned (.agg #[.int .i64 1,.int .i64 1,.int .i64 0])∧∃c,w'=w.alloc (.cells c 176):=ak 4 (by omega) w hT
theorem Jp (w:World)(hT:bK w):Calls Tryz.prog 112 #[.int .u8 5] w fun e w'=>e=.returned (.agg #[.int .i64 1,.int .i64 2,.int .i64 2])∧∃c,w'=w.alloc (.cells c 176):=ak 5 (by omega) w hT
theorem Jq (w:World)(hT:bK w):Calls Tryz.prog 112 #[.int .u8 6] w fun e w'=>e=.returned (.agg #[.int .i64 1,.int .i64 2,.int .i64 1])∧∃c,w'=w.alloc (.cells c 176):=ak 6 (by omega) w hT
theorem Jr (w:World)(hT:bK w):Calls Tryz.prog 112 #[.int .u8 7] w fun e w'=>e=.returned (.agg #[.int .i64 1,.int .i64 2,.int .i64 1])∧∃c,w'=w.alloc (.cells c 176):=ak 7 (by omega) w hT
theorem Js (w:World)(hT:bK w):Calls Tryz.prog 112 #[.int .u8 8] w fun e w'=>e=.returned (.agg #[.int .i64 1,.int .i64 2,.int .i64 1])∧∃c,w'=w.alloc (.cells c 176):=ak 8 (by omega) w hT
theorem Jt (w:World)(hT:bK w):Calls Tryz.prog 112 #[.int .u8 9] w fun e w'=>e=.returned (.agg #[.int .i64 1,.int .i64 2,.int .i64 1])∧∃c,w'=w.alloc (.cells c 176):=ak 9 (by omega) w hT
theorem Gj (w:World)(hT:bK w):Calls Tryz.prog 112 #[.int .u8 10] w fun e w'=>e=.returned (.agg #[.int .i64 1,.int .i64 2,.int .i64 1])∧∃c,w'=w.alloc (.cells c 176):=ak 10 (by omega) w hT
theorem Ac (w:World)(hT:bK w):Calls Tryz.prog 112 #[.int .u8 11] w fun e w'=>e=.returned (.agg #[.int .i64 1,.int .i64 2,.int .i64 1])∧∃c,w'=w.alloc (.cells c 176):=ak 11 (by omega) w hT
theorem Gk (w:World)(hT:bK w):Calls Tryz.prog 112 #[.int .u8 12] w fun e w'=>e=.returned (.agg #[.int .i64 1,.int .i64 2,.int .i64 1])∧∃c,w'=w.alloc (.cells c 176):=ak 12 (by omega) w hT
theorem Gl (w:World)(hT:bK w):Calls Tryz.prog 112 #[.int .u8 13] w fun e w'=>e=.returned (.agg #[.int .i64 1,.int .i64 2,.int .i64 1])∧∃c,w'=w.alloc (.cells c 176):=ak 13 (by omega) w hT
theorem Gm (w:World)(hT:bK w):Calls Tryz.prog 112 #[.int .u8 14] w fun e w'=>e=.returned (.agg #[.int .i64 2,.int .i64 0,.int .i64 0])∧∃c,w'=w.alloc (.cells c 176):=ak 14 (by omega) w hT
theorem Ad (w:World)(hT:bK w):Calls Tryz.prog 112 #[.int .u8 15] w fun e w'=>e=.returned (.agg #[.int .i64 2,.int .i64 1,.int .i64 0])∧∃c,w'=w.alloc (.cells c 176):=ak 15 (by omega) w hT
theorem Gn (w:World)(hT:bK w):Calls Tryz.prog 112 #[.int .u8 16] w fun e w'=>e=.returned (.agg #[.int .i64 2,.int .i64 0,.int .i64 1])∧∃c,w'=w.alloc (.cells c 176):=ak 16 (by omega) w hT
theorem Gp (w:World)(hT:bK w):Calls Tryz.prog 112 #[.int .u8 17] w fun e w'=>e=.returned (.agg #[.int .i64 2,.int .i64 1,.int .i64 0])∧∃c,w'=w.alloc (.cells c 176):=ak 17 (by omega) w hT
theorem Gq (w:World)(hT:bK w):Calls Tryz.prog 112 #[.int .u8 18] w fun e w'=>e=.returned (.agg #[.int .i64 1,.int .i64 1,.int .i64 0])∧∃c,w'=w.alloc (.cells c 176):=ak 18 (by omega) w hT
theorem Gs (w:World)(hT:bK w):Calls Tryz.prog 112 #[.int .u8 19] w fun e w'=>e=.returned (.agg #[.int .i64 2,.int .i64 0,.int .i64 0])∧∃c,w'=w.alloc (.cells c 176):=ak 19 (by omega) w hT
theorem Ae (w:World)(hT:bK w):Calls Tryz.prog 112 #[.int .u8 20] w fun e w'=>e=.returned (.agg #[.int .i64 2,.int .i64 0,.int .i64 0])∧∃c,w'=w.alloc (.cells c 176):=ak 20 (by omega) w hT
theorem bQ {P:Program}{x y z:Code}{Q:Exit→Act→World→Prop}{a:Act}{w:World}(Z:Code)(hz:Z=z)(h:(Code.seq x (.seq y Z)).wp P Q a w):(Code.seq x (.seq y z)).wp P Q a w:=hz▸h
theorem dO {P:Program}{Q:Exit→Act→World→Prop}{l rest:List Code}{c:Code}{a:Act}{w:World}(he:l=c::rest)(h:∀K:Act→World→Prop,c.wp P (Exit.then K Q) a w):runs P Q l a w:=by subst he;exact h _
theorem iT {P:Program}{Q:Exit→Act→World→Prop}{l rest:List Code}{c d:Code}{a:Act}{w:World}(he:l=c::d::rest)
  (h:∀K:Act→World→Prop,(∀a w,(∀K':Act→World→Prop,d.wp P (Exit.then K' Q) a w)→K a w)→c.wp P (Exit.then K Q) a w):runs P Q l a w:=by
 subst he;exact h _ (fun a w h2=>h2 _)
theorem mG (w:World)(x y:Value)(t:TypeId):∀j u,[x,y][j]?=some u→(w.alloc (.cells #[x,y] t)).cell? ((⟨w.heap.size,0,none⟩:Addr).add j)=some u:=by
 intro j u hj;match j,hj with
 |0,hj=>simp at hj;subst hj;simp[Addr.add]
 |1,hj=>simp at hj;subst hj;simp[Addr.add]
def Gt (b:Bool):Int:=if b then 1 else 0
theorem sD (b:Bool)(w:World):Calls Tryz.prog 184 #[.bool b] w fun e w'=>e=.returned (.int .u16 (Gt b))∧w'=w:=Bd b w
theorem Gu (base M:Nat)(w:World)(vs vo:Value)(σ:St)(n:Int)(hm:σ.stack.length≤32)(hT:bK w)(h:MS base M w vs vo σ):
  Calls Tryz.prog 150 #[.pointer (some ⟨M,0,none⟩),.int .u8 0,.int .u16 n] w (Out base M w (fin σ 0 0)):=by
 have hft:=aP;go_in;refine bQ (ag Tryz.f150.body) (by kernel_rfl) ?_;go_wp2_with fail
 refine(Jl _ hT).mono ?_
 rintro e w1 ⟨rfl,c,rfl⟩;go_wp2_with fail
 refine(take_zero base M _ vs vo σ (by omega) (h.alloc _)).mono ?_
 rintro e w2 ⟨rfl,⟨vs2,h2⟩,k2⟩;have k1:=(Kept.alloc (M:=M) w h.le (.cells c 176)).trans k2;clear k2;go_wp2_with fail
 refine eF _ (fun _ _ _ c=>c) _ _ _ _ 1 (by omega) (by omega) (fun Q' hQ'=>Ga _ _ _ _ _ _ _ _ _ _ _ _ _ _ _ _ _ Q' hQ') ?_;refine dO (c:=(aC 20 (ai (ag Tryz.f150.body)) []).getD 0 .skip) (rest:=(aC 20 (ai (ag Tryz.f150.body)) []).drop 1) (by kernel_rfl) (fun K=> ?_);simp only[tl,List.map_nil,List.map_cons,List.replicate,List.cons_append,List.nil_append];conv=>arg 2;whnf
 go_wp2_with fail
 refine(lN base M _ vs2 vo _ 0 0 h2).mono ?_
 rintro e w3 ⟨rfl,h3,k3⟩;go_wp2;go_end0
 exact⟨rfl,⟨_,_,h3⟩,k1.trans k3⟩
theorem Gv (base M:Nat)(w:World)(vs vo:Value)(σ:St)(n:Int)(hm:σ.stack.length≤32)(hn:0≤n)(hn':n≤65535)(hT:bK w)(h:MS base M w vs vo σ):
  Calls Tryz.prog 150 #[.pointer (some ⟨M,0,none⟩),.int .u8 19,.int .u16 n] w (Out base M w (fin σ 1 (16+n))):=by
 have hft:=aP;go_in;refine bQ (ag Tryz.f150.body) (by kernel_rfl) ?_;go_wp2_with fail
 refine(Gs _ hT).mono ?_
 rintro e w1 ⟨rfl,c,rfl⟩;go_wp2_with fail
 refine(take_zero base M _ vs vo σ (by omega) (h.alloc _)).mono ?_
 rintro e w2 ⟨rfl,⟨vs2,h2⟩,k2⟩;have k1:=(Kept.alloc (M:=M) w h.le (.cells c 176)).trans k2;clear k2;go_wp2_with fail
 refine eF _ (fun _ _ _ c=>c) _ _ _ _ 2 (by omega) (by omega) (fun Q' hQ'=>Dr _ _ _ _ _ _ _ _ _ _ _ _ _ _ _ _ _ Q' hQ') ?_;refine dO (c:=(aC 20 (ai (ag Tryz.f150.body)) []).getD 1 .skip) (rest:=(aC 20 (ai (ag Tryz.f150.body)) []).drop 2) (by kernel_rfl) (fun K=> ?_);simp only[tl,List.map_nil,List.map_cons,List.replicate,List.cons_append,List.nil_append];conv=>arg 2;whnf
 go_wp2_with fail
 refine(lN base M _ vs2 vo _ 1 (16+n) h2).mono ?_
 rintro e w3 ⟨rfl,h3,k3⟩;go_wp2;go_end0
 exact⟨rfl,⟨_,_,h3⟩,k1.trans k3⟩
theorem tO (base M:Nat)(w:World)(vs vo:Value)(σ:St)(n:Int)(hm:σ.stack.length<32)(he:σ.input.size=0)(hT:bK w)(h:MS base M w vs vo σ):
  Calls Tryz.prog 150 #[.pointer (some ⟨M,0,none⟩),.int .u8 2,.int .u16 n] w (Out base M w {σ with stack:=σ.stack++[256]}):=by
 have hft:=aP;go_in;refine bQ (ag Tryz.f150.body) (by kernel_rfl) ?_;go_wp2_with fail
 refine(DA _ hT).mono ?_
 rintro e w1 ⟨rfl,c,rfl⟩;go_wp2_with fail
 refine(take_zero base M _ vs vo σ (by omega) (h.alloc _)).mono ?_
 rintro e w2 ⟨rfl,⟨vs2,h2⟩,k2⟩;have k1:=(Kept.alloc (M:=M) w h.le (.cells c 176)).trans k2;clear k2;go_wp2_with fail
 refine eF _ (fun _ _ _ c=>c) _ _ _ _ 3 (by omega) (by omega) (fun Q' hQ'=>Ab _ _ _ _ _ _ _ _ _ _ _ _ _ _ _ _ _ Q' hQ') ?_;refine iT (c:=(aC 20 (ai (ag Tryz.f150.body)) []).getD 2 .skip) (d:=(aC 20 (ai (ag Tryz.f150.body)) []).getD 3 .skip) (rest:=(aC 20 (ai (ag Tryz.f150.body)) []).drop 4) (by kernel_rfl) (fun K hK=> ?_);simp only[tl,List.map_nil,List.map_cons,List.replicate,List.cons_append,List.nil_append];conv=>arg 2;whnf
 go_wp2_with fail
 refine(Be base M _ vs2 vo σ h2 he).mono ?_
 rintro e w3 ⟨rfl,rfl⟩;go_wp2_with fail
 intro K';conv=>arg 2;whnf
 go_wp2_with fail
 refine(eD base M _ vs2 vo _ ⟨w3.heap.size,0,none⟩ 1 1 [_] (h2.alloc _) (by omega) rfl (cell_one_new _ _ _) (by simp;omega)).mono ?_
 rintro e w4 ⟨rfl,⟨vs3,h3⟩,k3⟩;have k4:=k1.trans ((Kept.alloc (M:=M) w3 h2.le _).trans k3);go_wp2;go_end0
 exact⟨rfl,⟨_,_,h3⟩,k4⟩
theorem tP (base M:Nat)(w:World)(vs vo:Value)(σ:St)(n:Int)(hm:σ.stack.length<32)(hi:σ.input.size≤24)(he:0<σ.input.size)(hT:bK w)(h:MS base M w vs vo σ):
  Calls Tryz.prog 150 #[.pointer (some ⟨M,0,none⟩),.int .u8 2,.int .u16 n] w (Out base M w {σ with input:=σ.input.extract 1 σ.input.size,stack:=σ.stack++[((σ.input[0]'he).toNat:Int)]}):=by
 have hft:=aP;go_in;refine bQ (ag Tryz.f150.body) (by kernel_rfl) ?_;go_wp2_with fail
 refine(DA _ hT).mono ?_
 rintro e w1 ⟨rfl,c,rfl⟩;go_wp2_with fail
 refine(take_zero base M _ vs vo σ (by omega) (h.alloc _)).mono ?_
 rintro e w2 ⟨rfl,⟨vs2,h2⟩,k2⟩;have k1:=(Kept.alloc (M:=M) w h.le (.cells c 176)).trans k2;clear k2;go_wp2_with fail
 refine eF _ (fun _ _ _ c=>c) _ _ _ _ 3 (by omega) (by omega) (fun Q' hQ'=>Ab _ _ _ _ _ _ _ _ _ _ _ _ _ _ _ _ _ Q' hQ') ?_;refine iT (c:=(aC 20 (ai (ag Tryz.f150.body)) []).getD 2 .skip) (d:=(aC 20 (ai (ag Tryz.f150.body)) []).getD 3 .skip) (rest:=(aC 20 (ai (ag Tryz.f150.body)) []).drop 4) (by kernel_rfl) (fun K hK=> ?_);simp only[tl,List.map_nil,List.map_cons,List.replicate,List.cons_append,List.nil_append];conv=>arg 2;whnf
 go_wp2_with fail
 refine(Bf base M _ vs2 vo σ h2 hi he).mono ?_
 rintro e w3 ⟨rfl,h2',k2'⟩;have k1':=k1.trans k2';clear k1 k2';go_wp2_with fail
 intro K';conv=>arg 2;whnf
 go_wp2_with fail
 refine(eD base M _ vs2 vo _ ⟨w3.heap.size,0,none⟩ 1 1 [_] (h2'.alloc _) (by omega) rfl (cell_one_new _ _ _) (by simp;omega)).mono ?_
 rintro e w4 ⟨rfl,⟨vs3,h3⟩,k3⟩;have k4:=k1'.trans ((Kept.alloc (M:=M) w3 h2'.le _).trans k3);go_wp2;go_end0
 exact⟨rfl,⟨_,_,h3⟩,k4⟩
theorem Gw (base M:Nat)(w:World)(vs vo:Value)(σ:St)(n:Int)(hm:σ.stack.length<32)(hT:bK w)(h:MS base M w vs vo σ):
  Calls Tryz.prog 150 #[.pointer (some ⟨M,0,none⟩),.int .u8 1,.int .u16 n] w (Out base M w {σ with stack:=σ.stack++[n]}):=by
 have hft:=aP;go_in;refine bQ (ag Tryz.f150.body) (by kernel_rfl) ?_;go_wp2_with fail
 refine(Jm _ hT).mono ?_
 rintro e w1 ⟨rfl,c,rfl⟩;go_wp2_with fail
 refine(take_zero base M _ vs vo σ (by omega) (h.alloc _)).mono ?_
 rintro e w2 ⟨rfl,⟨vs2,h2⟩,k2⟩;have k1:=(Kept.alloc (M:=M) w h.le (.cells c 176)).trans k2;clear k2;go_wp2_with fail
 refine eF _ (fun _ _ _ c=>c) _ _ _ _ 4 (by omega) (by omega) (fun Q' hQ'=>Gb _ _ _ _ _ _ _ _ _ _ _ _ _ _ _ _ _ Q' hQ') ?_;refine dO (c:=(aC 20 (ai (ag Tryz.f150.body)) []).getD 3 .skip) (rest:=(aC 20 (ai (ag Tryz.f150.body)) []).drop 4) (by kernel_rfl) (fun K=> ?_);simp only[tl,List.map_nil,List.map_cons,List.replicate,List.cons_append,List.nil_append];conv=>arg 2;whnf
 go_wp2_with fail
 refine(eD base M _ vs2 vo _ ⟨w2.heap.size,0,none⟩ 1 1 [_] (h2.alloc _) (by omega) rfl (cell_one_new _ _ _) (by simp;omega)).mono ?_
 rintro e w3 ⟨rfl,⟨vs3,h3⟩,k3⟩;have k4:=k1.trans ((Kept.alloc (M:=M) w2 h2.le _).trans k3);go_wp2;go_end0
 exact⟨rfl,⟨_,_,h3⟩,k4⟩
end Go.Proofs.YtmpgjkhchfcjlaaGreatDoor
