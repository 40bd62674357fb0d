import Derived.Test.YtmpgjkhchfcjlaaGreatDoorM27
import Derived.Test.YtmpgjkhchfcjlaaGreatDoorShelf
import Derived.Sort.OwnSortedInts
namespace Go.Proofs.YtmpgjkhchfcjlaaGreatDoor
open Go.RowKit
set_option maxRecDepth 100000
set_option maxHeartbeats 4000000
structure KH (w:World) (H:Nat) (v:Value) (G:Nat→Nat) (l:List dQ):Prop where
 c7:w.cell? ⟨H,7,none⟩=some v
 row:r5 w v G l
 cls:∀k∈l,∀q,jl (k.aV q)
theorem KH.below {w w':World}{H:Nat}{v:Value}{G:Nat→Nat}{l:List dQ}(h:KH w H v G l)(b:Below w.heap.size w w'):KH w' H v G l:=
 ⟨(b.cell (p:=⟨H,7,none⟩) (World.block_lt_of_cell? w ⟨H,7,none⟩ h.c7)).trans h.c7,h.row.below b,h.cls⟩
theorem KH.lt {w:World}{H:Nat}{v:Value}{G:Nat→Nat}{l:List dQ}(h:KH w H v G l):H<w.heap.size:=World.block_lt_of_cell? w ⟨H,7,none⟩ h.c7
theorem KH.J9 {w:World}{H:Nat}{v:Value}{G:Nat→Nat}{l:List dQ}(h:KH w H v G l){n:Nat}(hn:n<l.length)(q:Nat):jl ((l.getD n fV).aV q):=by
 rw[List.getD_eq_getElem?_getD,List.getElem?_eq_getElem hn,Option.getD_some];exact h.cls _ (List.getElem_mem hn) q
theorem HU.kh {w:World}{U:Nat→Prop}{d:HD}{g:PG}{h:HS}(p:HU w U d g h)(hl:∀k∈h.kept,∀q,jl (k.aV q)):∃G,KH w d.H d.vk G h.kept:=by
 obtain⟨G,K⟩:=p.I0
 exact⟨G,p.cell 7 (by omega),K,hl⟩
structure Bx (w:World) (B P Q H p:Nat) (b:Int):Prop where
 h:w.cell? ⟨B,0,none⟩=some (.pointer (some ⟨H,0,none⟩))
 p:w.cell? ⟨P,0,none⟩=some (.int .i64 (p:Nat))
 q:w.cell? ⟨Q,0,none⟩=some (.int .u8 b)
theorem Bx.below {w w':World}{B P Q H p:Nat}{b:Int}(x:Bx w B P Q H p b)(hb:Below w.heap.size w w'):Bx w' B P Q H p b:=
 ⟨(hb.cell (p:=⟨B,0,none⟩) (World.block_lt_of_cell? w ⟨B,0,none⟩ x.h)).trans x.h,(hb.cell (p:=⟨P,0,none⟩) (World.block_lt_of_cell? w ⟨P,0,none⟩ x.p)).trans x.p,(hb.cell (p:=⟨Q,0,none⟩) (World.block_lt_of_cell? w ⟨Q,0,none⟩ x.q)).trans x.q⟩
def AG (B P Q:Nat):Array Value:=#[.pointer (some ⟨B,0,none⟩),.pointer (some ⟨P,0,none⟩),.pointer (some ⟨Q,0,none⟩)]
theorem x7 (w:World)(H:Nat)(v:Value)(G:Nat→Nat)(l:List dQ)(K:KH w H v G l)(B P Q p:Nat)(b:Int)(X:Bx w B P Q H p b)(hp:p<64)(cb:jl b)(n:Nat)(hn:n<l.length):
  Calls Tryz.prog 136 #[.int .i64 (n:Nat),.pointer (some ⟨B,0,none⟩),.pointer (some ⟨P,0,none⟩),.pointer (some ⟨Q,0,none⟩)] w fun e w'=>e=.returned (.bool (hasB ((l.getD n fV).aV p) b))∧Below w.heap.size w w':=by
 have H1:Hid (∀W,Below w.heap.size w W→Calls Tryz.prog 128 #[.pointer (some ⟨H,7,none⟩),.int .i64 (n:Nat)] W fun e w'=>e=.returned (.agg #[.string (l.getD n fV).text,.slice (some ⟨G n,0,none⟩) 64 64])∧Below w.heap.size w w'):=fun W BW=>
  (jX W H v G l (K.below BW).c7 (K.below BW).row n hn).mono fun _ _ ⟨a,b⟩=>⟨a,BW.trans (b.mono BW.size)⟩
 have H2:Hid (∀W t,Below w.heap.size w W→Calls Tryz.prog 137 #[.agg #[.string t,.slice (some ⟨G n,0,none⟩) 64 64],.int .i64 (p:Nat),.int .u8 b] W fun e w'=>e=.returned (.bool (hasB ((l.getD n fV).aV p) b))∧Below w.heap.size w w'):=fun W t BW=>
  (AB W t (G n) p b _ hp ((K.below BW).row.zg.cell n hn p hp) (K.J9 hn p) cb).mono fun _ _ ⟨a,b⟩=>⟨a,BW.trans (b.mono BW.size)⟩
 have HX:Hid (∀W,Below w.heap.size w W→W.cell? ⟨B,0,none⟩=some (.pointer (some ⟨H,0,none⟩))∧W.cell? ⟨P,0,none⟩=some (.int .i64 (p:Nat))∧W.cell? ⟨Q,0,none⟩=some (.int .u8 b)):=fun W BW=>⟨(X.below BW).h,(X.below BW).p,(X.below BW).q⟩
 have x1:=X.h;have x2:=X.p;have x3:=X.q;generalize hasB ((l.getD n fV).aV p) b=r at H2⊢
 generalize(l.getD n fV).text=t at H1
 generalize G n=gn at H1 H2;clear K X hn hp cb;go_in;go_wp2_with fail
 go_region_held3 (fun W=>W.cell? ⟨B,0,none⟩=some (.pointer (some ⟨H,0,none⟩))∧W.cell? ⟨P,0,none⟩=some (.int .i64 (p:Nat))∧W.cell? ⟨Q,0,none⟩=some (.int .u8 b)) (go_keep) (first
  |(go_at_call 128;go_fit (H1.out w.drew (Below.refl _ _).drew);rintro e w2 ⟨rfl,B2⟩;have HB2:Hid (Below w.heap.size w w2):=B2;obtain⟨y1,y2,y3⟩:=HX.out w2 B2;clear B2)
  |(go_at_call 137;go_fit (H2.out w2 _ HB2.out);rintro e w3 ⟨rfl,B3⟩;have HB3:Hid (Below w.heap.size w w3):=B3;obtain⟨z1,z2,z3⟩:=HX.out w3 B3;clear B3))
 all_goals
  go_wp2;go_ret
  exact⟨rfl,HB3.out⟩
theorem pK:∀args w,(callFunc 136 args).run Tryz.prog w=.ok (.enter 136 args) w:=enters_of Tryz.func136 (by kernel_rfl) rfl
theorem EM (l:List dQ)(p:Nat)(b:Int)(n:Nat):bg l p b n=hasB ((l.getD n fV).aV p) b:=by
 unfold bg;rw[List.getD_eq_getElem?_getD]
 cases l[n]?<;>rfl
theorem zo (w:World)(H:Nat)(v:Value)(G:Nat→Nat)(l:List dQ)(K:KH w H v G l)(B P Q p:Nat)(b:Int)(X:Bx w B P Q H p b)(hp:p<64)(cb:jl b)(L:List Nat)(hL:∀n∈L,n<l.length):
  jb 136 (AG B P Q) L.length (fun j=>.int .i64 ((L.getD j 0:Nat):Int)) (fun j=>bg l p b (L.getD j 0)) w:=by
 intro W j hj hW;have hm:L.getD j 0<l.length:=by
  rw[List.getD_eq_getElem?_getD,List.getElem?_eq_getElem hj,Option.getD_some];exact hL _ (List.getElem_mem hj)
 dsimp only;rw[EM]
 exact(x7 W H v G l (K.below hW) B P Q p b (X.below hW) hp cb (L.getD j 0) hm).mono fun _ _ ⟨a,b⟩=>⟨a,hW.trans (b.mono hW.size)⟩
structure LN (w:World) (base LB:Nat) (v:Value) (L:List Nat):Prop where
 cell:w.cell? ⟨LB,0,none⟩=some v
 thaw:w.frozen? ⟨LB,0,none⟩=false
 row:w.ownsRow base 3 1 v L.length (L.map fun n=>.int .i64 ((n:Nat):Int))
 ne:v.ownBlock≠some LB
theorem CK (w:World)(base LB:Nat)(vl:Value)(L:List Nat)(N:LN w base LB vl L)(gf:Nat)(lb:Array Value)(eg:∀args w,(callFunc gf args).run Tryz.prog w=.ok (.enter gf args) w)(P:Nat→Bool)
  (hp:jb gf lb L.length (fun j=>.int .i64 ((L.getD j 0:Nat):Int)) (fun j=>P (L.getD j 0)) w):
  Calls Tryz.prog 138 #[.pointer (some ⟨LB,0,none⟩),.func (.func gf) #[] lb] w fun e w'=>e=.returned (.bool (L.any P))∧Below w.heap.size w w':=by
 have c:=N.cell;rcases aO N.row with⟨hv,hn⟩|⟨b,cap,hv,hb,hcap,hnc,hc⟩
 ·rw[hv]at c;have e:=List.eq_nil_of_length_eq_zero hn;subst e;clear N hp;go_in;go_wp2_with fail
  refine(yO _ _ _ _).mono ?_
  rintro e w1 ⟨rfl,hw⟩;obtain rfl:=hw.symm;go_wp2_with fail
  go_ret
  exact⟨rfl,Below.refl _ _⟩
 ·rw[hv]at c;unfold maxLen at hcap;have HC:Hid (Calls Tryz.prog 176 #[.slice (some ⟨b,0,none⟩) L.length cap,.func (.func gf) #[] lb] w fun e w'=>e=.returned (.bool ((List.range L.length).any fun j=>P (L.getD j 0)))∧Below w.heap.size w w'):=
   Ci gf lb eg b L.length cap _ _ w hp (by omega) hb (fun j hj=>hc _ _ (by rw[List.getElem?_map,List.getElem?_eq_getElem hj,List.getD_eq_getElem?_getD,List.getElem?_eq_getElem hj];rfl))
  rw[lW]at HC;generalize L.any P=r at HC⊢;clear N hp hc;generalize L.length=n at*;go_in;go_wp2_with fail
  refine HC.out.mono ?_;rintro e w1 ⟨rfl,B1⟩;go_wp2_with fail
  go_ret
  exact⟨rfl,B1⟩
structure I4 (w:World) (base LB:Nat) (v:Value) (L:List Nat) (n:Nat) (w':World):Prop where
 ln:∃v',LN w' base LB v' (L++[n])∧(v'.ownBlock=v.ownBlock∨∀k,v'.ownBlock=some k→w.heap.size≤k)
 os:w'.os=w.os
 tape:w'.tape=w.tape
 output:w'.output=w.output
 size:w.heap.size≤w'.heap.size
 block:∀k,k<w.heap.size→k≠LB→v.ownBlock≠some k→w'.heap[k]?=w.heap[k]?
theorem gw:(Tryz.prog.info? 3).map (fun i=>(i.zero,i.size,i.bytes))=some (some (.int .i64 0),1,8):=by kernel_rfl
theorem CM (w:World)(base LB:Nat)(vl:Value)(L:List Nat)(N:LN w base LB vl L)(hb:base≤w.heap.size)(hL:L.length≤1000000)(n:Nat):
  Calls Tryz.prog 140 #[.pointer (some ⟨LB,0,none⟩),.int .i64 (n:Nat)] w fun e w'=>e=.returned (.tuple #[])∧I4 w base LB vl L n w':=by
 obtain⟨i,hi,hz0,hz1,hz2⟩:=bB gw
 have c0:=N.cell;have f0:=N.thaw;have hlt:LB<w.heap.size:=World.block_lt_of_cell? w ⟨LB,0,none⟩ c0;have hfin:Hid (∀v' w6,w6.ownsRow base 3 1 v' (L.length+1) ((L.map fun n=>Value.int .i64 ((n:Nat):Int))++[.int .i64 (n:Int)])→(w.alloc (.cells #[.int .i64 (n:Int)] 3)).grownBy w6 vl.ownBlock→(v'.ownBlock=vl.ownBlock∨v'.ownBlock=some (w.heap.size+1))→
   (w6.cell? ⟨LB,0,none⟩=some vl∧w6.frozen? ⟨LB,0,none⟩=false)∧I4 w base LB vl L n (w6.setCell ⟨LB,0,none⟩ v')):=by
  intro v' w6 ho hg hat;have hne:some LB≠vl.ownBlock:=fun c=>N.ne c.symm
  have hbk:w6.heap[LB]?=w.heap[LB]?:=(hg.block LB (by simp;omega) hne).trans (Below.heap_alloc _ _ _ hlt);have hc6:w6.cell? ⟨LB,0,none⟩=some vl:=(World.cell?_of_block (w:=w) (a:=⟨LB,0,none⟩) hbk).trans c0;have hf6:w6.frozen? ⟨LB,0,none⟩=false:=(World.frozen?_of_block (w:=w) (a:=⟨LB,0,none⟩) hbk).trans f0;have hvne:v'.ownBlock≠some LB:=fun c=>by
   rcases hat with a|a
   ·exact N.ne (a▸c)
   ·rw[a]at c;injection c with c;omega
  refine⟨⟨hc6,hf6⟩,⟨v',⟨World.cell?_setCell_same _ _ _ hc6,by rw[World.frozen?_setCell];exact hf6,?_,hvne⟩,?_⟩,hg.os,hg.tape,hg.output,?_,?_⟩
  ·have:=ay ho (w':=w6.setCell ⟨LB,0,none⟩ v') (fun b e=>heap_setCell_other w6 ⟨LB,0,none⟩ b v' (fun c=>hvne (by rw[e,c])))
   simpa using this
  ·rcases hat with a|a
   ·exact Or.inl a
   ·exact Or.inr (fun k e=>by rw[a]at e;injection e with e;omega)
  ·have:=hg.size;simp at this⊢;omega
  ·intro k hk h1 h2;rw[heap_setCell_other w6 ⟨LB,0,none⟩ k v' h1,hg.block k (by simp;omega) (fun c=>h2 c.symm)];exact Below.heap_alloc _ _ _ hk
 have hrow:=N.row;clear N;go_in;go_wp2_with(at_builtin;refine wpList_append_own_at _ rfl (.tmp 8) (.tmp 10) 32 rfl base 3 i (.int .i64 0) 1 8 Tryz.underlying32 hi hz0 hz1 hz2 rfl (by decide) _ L.length _ rfl (hrow.alloc _) ⟨w.heap.size,0,none⟩ 1 1 [.int .i64 (n:Int)] rfl rfl (cell_one_new _ _ _) ?c2 (by unfold maxLen;omega) (by omega) (by simp;omega) ?_)
 case c2=>first|rfl|(intro u hu;simp at hu;subst hu;rfl)
 intro v6 w6 ho6 hg6 _ hat6
 obtain⟨⟨c6,f6⟩,hf⟩:=hfin.out v6 w6 ho6 hg6 (by simpa using hat6)
 have HALL:Hid _:=hf
 obtain⟨g6,k6,rfl⟩:=aB ho6 (by omega)
 clear ho6 hg6 hat6 hf hrow c0 f0 hfin;go_wp2;go_end0
 exact⟨rfl,HALL.out⟩
theorem sp:(∀(a:Act) (d:Nat) (v:Value),a.put (some d) v={a with tmps:=a.tmps.setIfInBounds d v})∧(∀(l:List Value) (i:Nat) (v:Value),l.toArray.setIfInBounds i v=(l.set i v).toArray)∧(∀(x:Value) (l:List Value) (v:Value),(x::l).set 0 v=v::l)∧∀(x:Value) (l:List Value) (n:Nat) (v:Value),(x::l).set (n+1) v=x::l.set n v:=
 ⟨fun _ _ _=>rfl,fun _ _ _=>List.setIfInBounds_toArray ..,fun _ _ _=>rfl,fun _ _ _ _=>rfl⟩
theorem q9 {P:Program}{ops:Array Oper}{Q:Exit→Act→World→Prop}{md:Region.Mode}{oi:Oper}{v:Value}{fuel:Nat}{listed:Array Bool}{a:Act}{w:World}(i:Nat)(h:wpAnyH P md ops (NoPanic Q) (fun _=>True) fuel (listed.setIfInBounds i true) (a.put oi.dst v) w)(hi:ops.toList[i]?=some oi:=by rfl)(hs:Region.noSelect ops=true:=by kernel_rfl)(hf:Region.free md ops listed i=true:=by kernel_rfl)(hr:(Region.ready md ops listed).contains i=true:=by kernel_rfl)(hw:Region.wanted oi (yielded ops a.tmps)=true:=by rfl)(hy:∀w,(execOp a.eval oi).run P w=.ok (.value v) w:=by intro w;go_simp;try(with_reducible rfl)):wpAnyH P md ops (NoPanic Q) (fun _=>True) (fuel+1) listed a w:=
 wpAnyH_take (by rw[←Array.getElem?_toList];exact hi) hs hf hr (fun _ _ _ h=>h) (Or.inl ⟨hw,fun w _=>hy w⟩) trivial h
theorem lZ {P:Program}{ops:Array Oper}{Q:Exit→Act→World→Prop}{md:Region.Mode}{oi:Oper}{fuel:Nat}{listed:Array Bool}{a:Act}{w:World}(i:Nat)(h:wpAnyH P md ops (NoPanic Q) (fun _=>True) fuel (listed.setIfInBounds i true) (a.put oi.dst undef) w)(hi:ops.toList[i]?=some oi:=by rfl)(hs:Region.noSelect ops=true:=by kernel_rfl)(hf:Region.free md ops listed i=true:=by kernel_rfl)(hr:(Region.ready md ops listed).contains i=true:=by kernel_rfl)(hw:Region.wanted oi (yielded ops a.tmps)=false:=by rfl):wpAnyH P md ops (NoPanic Q) (fun _=>True) (fuel+1) listed a w:=
 wpAnyH_take (by rw[←Array.getElem?_toList];exact hi) hs hf hr (fun _ _ _ h=>h) (Or.inr ⟨hw,rfl⟩) trivial h
theorem tkY {P:Program}{ops:Array Oper}{Q:Exit→Act→World→Prop}{md:Region.Mode}{S:World→Prop}{o:Oper}{fuel:Nat}{listed:Array Bool}{a:Act}{w:World}(i:Nat)(h:∀K':Act→World→Prop,Shut (∀a w,S w→(S w→wpAnyH P md ops Q S fuel (listed.setIfInBounds i true) a w)→K' a w)→if Region.wanted o (yielded ops a.tmps)=true then Oper.wp P o a w K' Q else K' (a.put o.dst undef) w)(hi:ops.toList[i]?=some o:=by rfl)(hr:Region.ready md ops listed=[i]:=by kernel_rfl):wpAnyH P md ops Q S (fuel+1) listed a w:=
 wpAnyH_ready hr (by simp) (AllReadyH.cons (by rw[←Array.getElem?_toList];exact hi) h AllReadyH.nil)
theorem ji (t:ByteArray)(gn:Nat)(w:World):(Instr.field 147 (.agg #[.string t,.slice (some ⟨gn,0,none⟩) 64 64]) 0).run Tryz.prog w=.ok (.string t) w:=by kernel_rfl
theorem EN (l:List dQ)(n:Nat):iz l n=(l.getD n fV).text.size:=by
 unfold iz;rw[List.getD_eq_getElem?_getD]
 cases l[n]?<;>rfl
def CN (o:Option Nat)(best ok:Value):Prop:=(o=none∧best=.int .i64 0∧ok=.bool false)∨∃b:Nat,o=some b∧best=.int .i64 (b:Int)∧ok=.bool true
theorem zq (w:World)(H:Nat)(v:Value)(G:Nat→Nat)(l:List dQ)(K:KH w H v G l)(B P Q p:Nat)(b:Int)(X:Bx w B P Q H p b)(hp:p<64)(cb:jl b)(hsz:∀k∈l,k.text.size≤24):
  Calls Tryz.prog 139 #[.pointer (some ⟨H,0,none⟩),.func (.func 136) #[] (AG B P Q)] w fun e w'=>(∃best ok,CN (bF l (bg l p b) l.length) best ok∧e=.returned (.tuple #[best,ok]))∧Below w.heap.size w w':=by
 have hH:=K.lt;have hft:=ji;have HK:Hid (∀W n,Below w.heap.size w W→n<l.length→Calls Tryz.prog 128 #[.pointer (some ⟨H,7,none⟩),.int .i64 (n:Nat)] W fun e w'=>e=.returned (.agg #[.string (l.getD n fV).text,.slice (some ⟨G n,0,none⟩) 64 64])∧Below w.heap.size w w'):=fun W n BW hn=>
  (jX W H v G l (K.below BW).c7 (K.below BW).row n hn).mono fun _ _ ⟨a,b⟩=>⟨a,BW.trans (b.mono BW.size)⟩
 have HF:Hid (∀W n,Below w.heap.size w W→n<l.length→Calls Tryz.prog 136 #[.int .i64 (n:Nat),.pointer (some ⟨B,0,none⟩),.pointer (some ⟨P,0,none⟩),.pointer (some ⟨Q,0,none⟩)] W fun e w'=>e=.returned (.bool (bg l p b n))∧Below w.heap.size w w'):=fun W n BW hn=>by
  rw[EM]
  exact(x7 W H v G l (K.below BW) B P Q p b (X.below BW) hp cb n hn).mono fun _ _ ⟨a,b⟩=>⟨a,BW.trans (b.mono BW.size)⟩
 have H0:=hid (iO w H v G l K.c7 K.row);have hlen:l.length≤9223372036854775807:=by obtain⟨_,_,_,hn⟩:=K.row.head;exact hn
 have HSZ:Hid (∀n,n<l.length→(l.getD n fV).text.size≤24):=fun n hn=>by
  rw[List.getD_eq_getElem?_getD,List.getElem?_eq_getElem hn,Option.getD_some];exact hsz _ (List.getElem_mem hn)
 have hen:=pK;unfold AG;clear K X hsz;generalize hN:l.length=N at*;go_in;go_wp2_with fail
 refine H0.out.mono ?_;rintro e w1 ⟨rfl,hw⟩;obtain rfl:=hw.symm;go_wp2_with fail
 go_loopw [6,7,8,13] (fun best ok _ i wr=>∃k:Nat,k≤N∧i=.int .i64 k∧Below w.heap.size w wr∧CN (bF l (bg l p b) k) best ok) (fun _ _ _ i _=>N-(intOf i).toNat)
 case atStart=>exact ⟨0,by omega,rfl,Below.refl _ _,Or.inl ⟨rfl,rfl,rfl⟩⟩
 case round=>
  obtain⟨k,hk,rfl,BB,hsh⟩:=hrel
  by_cases hlt:k<N
  ·have hi1:(k:Int)<(N:Int):=(by omega);have HB:=hid BB;have HC:=hid (HF.out wr.drew k BB.drew hlt);clear BB;have hstep:bF l (bg l p b) (k+1)=match bF l (bg l p b) k with|none=>if bg l p b k then some k else none|some c=>if bg l p b k&&decide (iz l k<iz l c)then some k else some c:=rfl
   cases hfit:bg l p b k
   all_goals rw[hfit]at HC hstep
   focus
    have:bF l (bg l p b) (k+1)=bF l (bg l p b) k:=by rw[hstep];cases bF l (bg l p b) k<;>simp
    rw[←this]at hsh;have HS:=hid hsh;clear this hstep;rcases hsh with⟨_,rfl,rfl⟩|⟨bb,_,rfl,rfl⟩
   rotate_left 2
   focus
    rcases hsh with⟨ho,rfl,rfl⟩|⟨bb,ho,rfl,rfl⟩;all_goals
     rw[ho]at hstep;dsimp only at hstep
    focus
     have HS:Hid (CN (bF l (bg l p b) (k+1)) (.int .i64 (k:Int)) (.bool true)):=Or.inr ⟨k,hstep,rfl,rfl⟩;clear hstep ho
    rotate_left
    have hbb:bb<N:=by have:=(gY l _ k bb ho).1;omega
    rw[EN,EN]at hstep;have s1:=HSZ.out k hlt;have s2:=HSZ.out bb hbb;have HK1:=hid fun W BW=>HK.out W k BW hlt
    have HK2:=hid fun W BW=>HK.out W bb BW hbb
    generalize(l.getD k fV).text=tk at hstep HK1 s1
    generalize(l.getD bb fV).text=tb at hstep HK2 s2
    generalize G k=gk at HK1;generalize G bb=gb at HK2;clear ho HK;by_cases hsl:tk.size<tb.size;focus
     have HS:Hid (CN (bF l (bg l p b) (k+1)) (.int .i64 (k:Int)) (.bool true)):=Or.inr ⟨k,by rw[hstep];simp[hsl],rfl,rfl⟩;have hsl':(tk.size:Int)<(tb.size:Int):=(by omega);clear hstep
    rotate_left
    focus
     have HS:Hid (CN (bF l (bg l p b) (k+1)) (.int .i64 (bb:Int)) (.bool true)):=Or.inr ⟨bb,by rw[hstep];simp[hsl],rfl,rfl⟩;have hsl':¬(tk.size:Int)<(tb.size:Int):=(by omega);clear hstep
    rotate_left
   all_goals
    go_wp2_with fail
    refine wp_region_noPanic ?_;refine wp_region_held_drew (S:=fun _:World=>True) (by kernel_rfl) trivial (fun hHeld=> ?_);refine q9 0 ?_;simp only[sp];refine q9 1 ?_;simp only[sp];refine tkY 2 fun K hK=> ?_
    go_simp
    refine(HC.out).mono ?_
    rintro e w2 ⟨rfl,B2⟩;have HB2:=hid B2;clear B2;refine hK.out _ _ trivial fun _=> ?_
    clear hK K;try simp only[sp]
    refine q9 3 ?_;simp only[sp]
   focus
    refine q9 4 ?_;simp only[sp];refine q9 5 ?_;simp only[sp];refine q9 6 ?_;simp only[sp];refine lZ 7 ?_;simp only[sp];refine lZ 8 ?_;simp only[sp];refine lZ 9 ?_;simp only[sp];refine lZ 10 ?_;simp only[sp];refine lZ 11 ?_;simp only[sp];refine lZ 12 ?_;simp only[sp];refine lZ 13 ?_;simp only[sp];refine lZ 14 ?_;simp only[sp];refine lZ 15 ?_;simp only[sp];refine lZ 16 ?_;simp only[sp];refine lZ 17 ?_;simp only[sp];refine lZ 18 ?_;simp only[sp];refine lZ 19 ?_;simp only[sp];refine lZ 20 ?_;simp only[sp];refine lZ 21 ?_;simp only[sp];refine q9 22 ?_;simp only[sp]
   rotate_left
   iterate 2
    focus
     refine q9 4 ?_;simp only[sp];refine q9 5 ?_;simp only[sp];refine q9 6 ?_;simp only[sp];refine q9 7 ?_;simp only[sp];refine q9 8 ?_;simp only[sp];refine q9 9 ?_;simp only[sp];refine q9 10 ?_;simp only[sp];refine q9 14 ?_;simp only[sp];refine q9 15 ?_;simp only[sp];refine q9 16 ?_;simp only[sp];refine q9 17 ?_;simp only[sp];refine tkY 11 fun K hK=> ?_
     go_simp
     refine(HK1.out w2 HB2.out).mono ?_
     rintro e w3 ⟨rfl,B2⟩;have HB2:=hid B2;clear B2;refine hK.out _ _ trivial fun _=> ?_
     clear hK K;try simp only[sp]
     refine q9 12 ?_;simp only[sp];refine q9 13 ?_;simp only[sp];refine tkY 18 fun K hK=> ?_
     go_simp
     refine(HK2.out w3 HB2.out).mono ?_
     rintro e w4 ⟨rfl,B2⟩;have HB2:=hid B2;clear B2;refine hK.out _ _ trivial fun _=> ?_
     clear hK K;try simp only[sp]
     refine q9 19 ?_;simp only[sp];refine q9 20 ?_;simp only[sp];refine q9 21 ?_;simp only[sp];refine q9 22 ?_;simp only[sp]
    rotate_left
   iterate 2
    focus
     refine lZ 4 ?_;simp only[sp];refine lZ 5 ?_;simp only[sp];refine lZ 6 ?_;simp only[sp];refine lZ 7 ?_;simp only[sp];refine lZ 8 ?_;simp only[sp];refine lZ 9 ?_;simp only[sp];refine lZ 10 ?_;simp only[sp];refine lZ 11 ?_;simp only[sp];refine lZ 12 ?_;simp only[sp];refine lZ 13 ?_;simp only[sp];refine lZ 14 ?_;simp only[sp];refine lZ 15 ?_;simp only[sp];refine lZ 16 ?_;simp only[sp];refine lZ 17 ?_;simp only[sp];refine lZ 18 ?_;simp only[sp];refine lZ 19 ?_;simp only[sp];refine lZ 20 ?_;simp only[sp];refine lZ 21 ?_;simp only[sp];refine lZ 22 ?_;simp only[sp]
    rotate_left
   all_goals
    refine q9 23 ?_;simp only[sp];refine wpAnyH_done (by kernel_rfl) ?_ _;refine NoPanic.normal ?_;go_wp2_with fail
    go_roundw
    case rel=>exact ⟨k+1,by omega,by go_num,HB2.out,HS.out⟩
    case measure=>simp [intOf];omega
  ·obtain rfl:k=N:=by omega
   go_wp2_with fail
   go_ret2
   exact⟨⟨_,_,hsh,rfl⟩,BB⟩
theorem LN.below {w w':World}{base LB:Nat}{v:Value}{L:List Nat}(h:LN w base LB v L)(b:Below w.heap.size w w'):LN w' base LB v L:=by
 have hl:=World.block_lt_of_cell? w ⟨LB,0,none⟩ h.cell
 exact⟨(b.cell (p:=⟨LB,0,none⟩) hl).trans h.cell,(World.frozen?_of_block (w:=w) (a:=⟨LB,0,none⟩) (b.block LB hl)).trans h.thaw,ay h.row (fun k e=>b.block k (aL h.row e)),h.ne⟩
structure FS (w wr:World) (H:Nat) (L:List Nat):Prop where
 dY:Below w.heap.size w wr
 box:wr.cell? ⟨w.heap.size,0,none⟩=some (.pointer (some ⟨H,0,none⟩))
 ln:∃v,LN wr w.heap.size (w.heap.size+1) v L∧v.ownBlock≠some w.heap.size
structure FP (w wr:World) (H:Nat) (L:List Nat) (P p Q:Nat) (b:Int):Prop where
 dY:Below w.heap.size w wr
 bx:Bx wr w.heap.size P Q H p b
 ln:∃v,LN wr w.heap.size (w.heap.size+1) v L∧v.ownBlock≠some w.heap.size∧v.ownBlock≠some P∧v.ownBlock≠some Q
 thaw:wr.frozen? ⟨Q,0,none⟩=false
 LA:P≠w.heap.size+1
 LC:Q≠w.heap.size+1
theorem FP.below {w wr w':World}{H:Nat}{L:List Nat}{P p Q:Nat}{b:Int}(h:FP w wr H L P p Q b)(bb:Below wr.heap.size wr w'):FP w w' H L P p Q b:=by
 obtain⟨v,h1,h2⟩:=h.ln
 have hq:=World.block_lt_of_cell? wr ⟨Q,0,none⟩ h.bx.q
 exact⟨h.dY.trans (bb.mono h.dY.size),h.bx.below bb,⟨v,h1.below bb,h2⟩,(World.frozen?_of_block (w:=wr) (a:=⟨Q,0,none⟩) (bb.block Q hq)).trans h.thaw,h.LA,h.LC⟩
theorem FP.added {w wr w':World}{H:Nat}{L:List Nat}{P p Q n:Nat}{b:Int}{v:Value}(h:FP w wr H L P p Q b)(hv:v.ownBlock≠some w.heap.size∧v.ownBlock≠some P∧v.ownBlock≠some Q)(t:I4 wr w.heap.size (w.heap.size+1) v L n w')(hbl:∀k,v.ownBlock=some k→w.heap.size≤k):FP w w' H (L++[n]) P p Q b:=by
 have hB:=World.block_lt_of_cell? wr ⟨w.heap.size,0,none⟩ h.bx.h;have hP:=World.block_lt_of_cell? wr ⟨P,0,none⟩ h.bx.p;have hQ:=World.block_lt_of_cell? wr ⟨Q,0,none⟩ h.bx.q
 obtain⟨v',h1,h2⟩:=t.ln
 have hne:∀k,k<wr.heap.size→v.ownBlock≠some k→v'.ownBlock≠some k:=fun k hk hn c=>by
  rcases h2 with e|e
  ·exact hn (e▸c)
  ·have:=e k c;omega
 refine⟨⟨t.os.trans h.dY.os,t.tape.trans h.dY.tape,t.output.trans h.dY.output,Nat.le_trans h.dY.size t.size,fun k hk=>(t.block k (Nat.lt_of_lt_of_le hk h.dY.size) (by omega) (fun c=>by have:=hbl k c;omega)).trans (h.dY.block k hk)⟩,
  ⟨(World.cell?_of_block (w:=wr) (a:=⟨w.heap.size,0,none⟩) (t.block _ hB (by show w.heap.size≠w.heap.size+1;omega) hv.1)).trans h.bx.h,(World.cell?_of_block (w:=wr) (a:=⟨P,0,none⟩) (t.block _ hP h.LA hv.2.1)).trans h.bx.p,(World.cell?_of_block (w:=wr) (a:=⟨Q,0,none⟩) (t.block _ hQ h.LC hv.2.2)).trans h.bx.q⟩,
  ⟨v',h1,hne _ hB hv.1,hne _ hP hv.2.1,hne _ hQ hv.2.2⟩,(World.frozen?_of_block (w:=wr) (a:=⟨Q,0,none⟩) (t.block _ hQ h.LC hv.2.2)).trans h.thaw,h.LA,h.LC⟩
theorem FP.next {w wr:World}{H:Nat}{L:List Nat}{P p Q:Nat}{b:Int}(h:FP w wr H L P p Q b)(b':Int):FP w (wr.alloc (.cells #[.int .u8 b'] 5)) H L P p wr.heap.size b':=by
 have hb:Below wr.heap.size wr (wr.alloc (.cells #[.int .u8 b'] 5)):=(Below.refl _ _).alloc (Nat.le_refl _) _;have h':=h.below hb
 obtain⟨v,h1,h2,h3,_⟩:=h.ln
 have hl:w.heap.size+1<wr.heap.size:=World.block_lt_of_cell? wr ⟨w.heap.size+1,0,none⟩ h1.cell
 exact⟨h'.dY,⟨h'.bx.h,h'.bx.p,iN _ _ _ _ rfl⟩,⟨v,h1.below hb,h2,h3,fun c=>by have:=aL h1.row c;omega⟩,World.frozen?_alloc_at (w:=wr) _ _ wr.heap.size 0 rfl,h.LA,by omega⟩
theorem FP.fs {w wr:World}{H:Nat}{L:List Nat}{P p Q:Nat}{b:Int}(h:FP w wr H L P p Q b):FS w wr H L:=by
 obtain⟨v,h1,h2,_⟩:=h.ln
 exact⟨h.dY,h.bx.h,v,h1,h2⟩
theorem FS.fp {w wr:World}{H:Nat}{L:List Nat}(h:FS w wr H L)(p:Nat):FP w ((wr.alloc (.cells #[.int .i64 (p:Int)] 3)).alloc (.cells #[.int .u8 1] 5)) H L wr.heap.size p (wr.heap.size+1) 1:=by
 have hb:Below wr.heap.size wr ((wr.alloc (.cells #[.int .i64 (p:Int)] 3)).alloc (.cells #[.int .u8 1] 5)):=((Below.refl _ _).alloc (Nat.le_refl _) _).alloc (by simp) _
 obtain⟨v,h1,h2⟩:=h.ln
 have hl:w.heap.size+1<wr.heap.size:=World.block_lt_of_cell? wr ⟨w.heap.size+1,0,none⟩ h1.cell;have hB:w.heap.size<wr.heap.size:=by omega
 refine⟨h.dY.trans (hb.mono h.dY.size),⟨(hb.cell (p:=⟨w.heap.size,0,none⟩) hB).trans h.box,?_,iN _ _ _ _ (by simp)⟩,⟨v,h1.below hb,h2,fun c=>by have:=aL h1.row c;omega,fun c=>by have:=aL h1.row c;omega⟩,?_,by omega,by omega⟩
 ·rw[World.cell?_alloc_past _ _ _ (by simp)];exact iN _ _ _ _ rfl
 ·exact World.frozen?_alloc_at (w:=wr.alloc (.cells #[.int .i64 (p:Int)] 3)) _ _ (wr.heap.size+1) 0 (by simp)
theorem EO (w:World)(H:Nat):FS w ((w.alloc (.cells #[.pointer (some ⟨H,0,none⟩)] 95)).alloc (.cells #[.slice none 0 0] 208)) H []:=by
 refine⟨((Below.refl _ _).alloc (Nat.le_refl _) _).alloc (by simp) _,?_,.slice none 0 0,⟨iN _ _ _ _ (by simp),?_,World.ownsRow_nil _ _ _ _,fun c=>by cases c⟩,fun c=>by cases c⟩
 ·rw[World.cell?_alloc_past _ _ _ (by simp)];exact iN _ _ _ _ rfl
 ·exact World.frozen?_alloc_at (w:=w.alloc (.cells #[.pointer (some ⟨H,0,none⟩)] 95)) _ _ (w.heap.size+1) 0 (by simp)
def gK (k:Nat):Int:=if k<8 then eA k else 0
theorem byte_at {k:Nat}(h:k<8):gK k=eA k:=if_pos h
theorem I5 {k:Nat}(h:k<8):gK k≠0:=by
 match k,h with
 |0,_|1,_|2,_|3,_|4,_|5,_|6,_|7,_=>decide
 |k+8,h=>omega
theorem I6 (k:Nat)(h:k<8):0≤gK k∧gK k≤128∧IntKind.u8.wrap (gK k*2)=gK (k+1):=by
 match k,h with
 |0,_|1,_|2,_|3,_|4,_|5,_|6,_|7,_=>decide
 |k+8,h=>omega
theorem LN.lo {w:World}{base LB:Nat}{v:Value}{L:List Nat}(h:LN w base LB v L):∀k,v.ownBlock=some k→base≤k:=fun k e=>by
 rcases h.row.2 with⟨hn,_⟩|⟨b,cap,cur,hv,hg,_⟩
 ·rw[hn]at e;cases e
 ·rw[hv]at e
  have:b=k:=by simpa[Value.ownBlock]using e
  omega
theorem EP (l:List dQ):(((cu l).map fun n=>((n:Nat):Int)).mergeSort fun x y=>decide (x≤y))=(bE l).map fun n=>((n:Nat):Int):=by
 have h1:(((cu l).map fun n=>((n:Nat):Int)).mergeSort fun x y=>decide (x≤y)).Pairwise (fun x y=>decide (x≤y)=true):=List.pairwise_mergeSort (fun a b c h1 h2=>by simp at*;omega) (fun a b=>by simp;omega) _;have h2:((bE l).map fun n=>((n:Nat):Int)).Pairwise (fun x y=>decide (x≤y)=true):=by
  rw[List.pairwise_map]
  exact(qP l).imp (fun h=>by simp;omega)
 have h3:(((cu l).map fun n=>((n:Nat):Int)).mergeSort fun x y=>decide (x≤y)).Perm ((bE l).map fun n=>((n:Nat):Int)):=(List.mergeSort_perm _ _).trans ((wD l).symm.map _);exact h3.eq_of_pairwise (fun a b _ _ h4 h5=>by simp at h4 h5;omega) h1 h2
theorem CO (w:World)(base LB:Nat)(vl:Value)(L:List Nat)(N:LN w base LB vl L)(hL:L.length≤1000000):
  Calls Tryz.prog 141 #[.pointer (some ⟨LB,0,none⟩)] w fun e w'=>(∃v',e=.returned v'∧w'.ownsRow w.heap.size 3 1 v' L.length (L.map fun n=>.int .i64 ((n:Nat):Int)))∧Below w.heap.size w w':=by
 have c:=N.cell;rcases aO N.row with⟨hv,hn⟩|⟨b,cap,hv,hb,hcap,hnc,hc⟩
 ·rw[hv]at c;have e:=List.eq_nil_of_length_eq_zero hn;subst e;clear N;go_in;go_wp2_with fail
  refine(Tryz.slices_Clone_int_nil 0 0 w).mono ?_
  rintro e w1 ⟨rfl,hw⟩;obtain rfl:=hw.symm;go_wp2_with fail
  go_ret
  exact⟨⟨_,rfl,World.ownsRow_nil _ _ _ _⟩,Below.refl _ _⟩
 ·rw[hv]at c;have HC:Hid (Calls Tryz.prog 177 #[.slice (some ⟨b,0,none⟩) L.length cap] w fun e w'=>∃v',e=.returned v'∧w'.ownsRow w.heap.size 3 1 v' L.length (((L.map fun n=>((n:Nat):Int)).take L.length).map (Value.int .i64))∧v'≠.slice none 0 0∧Below w.heap.size w w'):=
   Tryz.slices_Clone_int b 0 L.length cap (L.map fun n=>((n:Nat):Int)) w (by simp) (by omega) (fun j hj=>by
    rw[List.length_map]at hj;rw[Nat.zero_add];exact hc j _ (by rw[List.getElem?_map,List.getElem?_eq_getElem hj,List.getD_eq_getElem?_getD,List.getElem?_map,List.getElem?_eq_getElem hj];rfl))
  have e:(((L.map fun n=>((n:Nat):Int)).take L.length).map (Value.int .i64))=L.map fun n=>Value.int .i64 ((n:Nat):Int):=by
   rw[List.take_of_length_le (by simp),List.map_map];rfl
  rw[e]at HC;clear N hc e;have hmx:L.length≤9223372036854775807:=by omega
  obtain⟨XX,hXX⟩:∃XX,(L.map fun n=>Value.int .i64 ((n:Nat):Int))=XX:=⟨_,rfl⟩
  rw[hXX]at HC⊢;clear hXX;generalize L.length=n at*;go_in;go_wp2_with fail
  refine HC.out.mono ?_;rintro e w1 ⟨v',rfl,hrow,_,B1⟩;have hform:=aO hrow;have HR:=hid hrow;clear hrow;rcases hform with⟨rfl,h0⟩|⟨b',cap',rfl,_⟩
  ·go_wp2_with fail
   go_ret
   exact⟨⟨_,rfl,HR.out⟩,B1⟩
  ·go_wp2_with fail
   go_ret
   exact⟨⟨_,rfl,HR.out⟩,B1⟩
theorem ER (w:World)(base:Nat)(v:Value)(L:List Int)(hrow:w.ownsRow base 3 1 v L.length (L.map (Value.int .i64)))(hL:L.length≤1000000):
  Calls Tryz.prog 142 #[v] w fun e w'=>e=.returned (.tuple #[])∧w'.ownsRow base 3 1 v L.length ((L.mergeSort fun x y=>decide (x≤y)).map (Value.int .i64))∧Below base w w':=by
 rcases hrow.2 with⟨hv,hn⟩|⟨g,cap,cur,hv,hg,hh,hnc,hcap,hcs,htake⟩
 ·have e:=List.eq_nil_of_length_eq_zero hn;subst e hv
  refine(Tryz.slices_Sort_int_none none 0 w).mono ?_
  rintro e w1 ⟨rfl,rfl⟩
  exact⟨rfl,by simpa using hrow,Below.refl _ _⟩
 ·subst hv;rw[Nat.mul_one]at htake
  refine(Tryz.slices_Sort_int g 0 cap L w (holds_of_blockI hh htake) (Array.getElem?_eq_some_iff.1 hh).1 (by omega)).mono ?_
  rintro e w1 ⟨rfl,n,os,rfl⟩;have hgr:=grownBy_sortedI (w:=w) (g:=g) (n:=n) (os:=os) (L.mergeSort fun x y=>decide (x≤y)).toArray
  refine⟨rfl,ownsRow_sortedI (List.length_mergeSort _) hg hh hnc hcap hcs,⟨hgr.os,hgr.tape,hgr.output,hgr.size,fun k hk=>hgr.block k ?_ (fun c=>by injection c with c;omega)⟩⟩
  have:=(Array.getElem?_eq_some_iff.1 hh).1
  omega
theorem ES {w:World}{base base':Nat}{e:TypeId}{size:Nat}{v:Value}{n:Nat}{xs:List Value}(h:w.ownsRow base e size v n xs)(hb:base'≤base):w.ownsRow base' e size v n xs:=by
 refine⟨h.1,?_⟩
 rcases h.2 with hn|⟨b,cap,cur,hv,hg,r⟩
 ·exact .inl hn
 ·exact .inr ⟨b,cap,cur,hv,Nat.le_trans hb hg,r⟩
theorem AH (w:World)(H:Nat)(v:Value)(G:Nat→Nat)(l:List dQ)(K:KH w H v G l)(hsz:∀k∈l,k.text.size≤24)(hlen:l.length≤1000000):
  Calls Tryz.prog 95 #[.pointer (some ⟨H,0,none⟩)] w fun e w'=>(∃v',e=.returned v'∧w'.ownsRow w.heap.size 3 1 v' (bE l).length ((bE l).map fun n=>.int .i64 ((n:Nat):Int)))∧Below w.heap.size w w':=by
 have HK:=hid K;have HZ:=hid hsz;have HF0:=hid (EO w H);clear K hsz;go_in;go_wp2_with fail
 go_loopw [4,10] (fun _ i wr=>∃k:Nat,k≤64∧i=.int .i64 k∧FS w wr H (aR l k)) (fun _ i _=>64-(intOf i).toNat)
 case atStart=>exact ⟨0,by omega,rfl,HF0.out⟩
 case round=>
  obtain⟨k,hk,rfl,hF⟩:=hrel
  by_cases hlt:k<64
  ·have hi1:(k:Int)<64:=(by omega);have HF:=hid (hF.fp k);clear hF;go_wp2_with fail
   generalize hP:wr.heap.size=P at HF⊢;have HOK:Hid (∀kk,pz l (bG l k kk (aR l k))):=fun kk=>(ku k kk _ (gB l k).1).1
   go_loopg [5,6,7,8] 8 (fun gg q _ _ _ wx=>∃kk Q:Nat,kk≤8∧8-kk≤gg∧q=.pointer (some ⟨Q,0,none⟩)∧FP w wx H (bG l k kk (aR l k)) P k Q (gK kk))
   case atStart=>exact ⟨0,P+1,by omega,by omega,rfl,HF.out⟩
   case round=>
    obtain⟨kk,Q,hkk,hgg,rfl,hFP⟩:=hrel
    by_cases hlt8:kk<8
    ·have hq:=hFP.bx.q;have hbn:=I5 hlt8
     obtain⟨hb0,hb1,hb2⟩:=I6 kk hlt8
     have cb:jl (gK kk):=by rw[byte_at hlt8];exact nH hlt8
     have HFP:=hid hFP
     obtain⟨vl,hLN,hv⟩:=hFP.ln
     have KW:=HK.out.below hFP.dY;have H1:Hid (Calls Tryz.prog 138 #[.pointer (some ⟨w.heap.size+1,0,none⟩),.func (.func 136) #[] #[.pointer (some ⟨w.heap.size,0,none⟩),.pointer (some ⟨P,0,none⟩),.pointer (some ⟨Q,0,none⟩)]] wr fun e w'=>e=.returned (.bool ((bG l k kk (aR l k)).any (bg l k (gK kk))))∧Below wr.heap.size wr w'):=
      CK wr _ _ vl _ hLN 136 (AG w.heap.size P Q) pK (bg l k (gK kk)) (zo wr H v G l KW _ _ _ k _ hFP.bx hlt cb _ (HOK.out kk).lt)
     have hstep:bG l k (kk+1) (aR l k)=gP l k (gK kk) (bG l k kk (aR l k)):=by rw[byte_at hlt8];rfl
     have HOKK:=(HOK.out kk).lt;have HNK:Hid ((bG l k kk (aR l k)).length≤1000000):=by
      have:=(HOK.out kk)
      have h2:(bG l k kk (aR l k)).length≤l.length:=by
       have h3:=this.nodup.length_le_of_subset (l₂:=List.range l.length) (fun x hx=>List.mem_range.2 (this.lt x hx));simpa using h3
      show _≤_;omega
     have HL:Hid (LN wr w.heap.size (w.heap.size+1) vl (bG l k kk (aR l k))∧(vl.ownBlock≠some w.heap.size∧vl.ownBlock≠some P∧vl.ownBlock≠some Q)):=⟨hLN,hv⟩;have hl1:=World.block_lt_of_cell? wr ⟨w.heap.size+1,0,none⟩ hLN.cell;have HNX:Hid (∀W L,FP w W H L P k Q (gK kk)→FP w (W.alloc (.cells #[.int .u8 (gK (kk+1))] 5)) H L P k W.heap.size (gK (kk+1))):=fun W L f=>f.next _
     have HQ':Hid (∀W,Below wr.heap.size wr W→W.cell? ⟨Q,0,none⟩=some (.int .u8 (gK kk))):=fun W bb=>(HFP.out.below bb).bx.q
     have HSC:Hid (∀W,Below wr.heap.size wr W→Calls Tryz.prog 139 #[.pointer (some ⟨H,0,none⟩),.func (.func 136) #[] #[.pointer (some ⟨w.heap.size,0,none⟩),.pointer (some ⟨P,0,none⟩),.pointer (some ⟨Q,0,none⟩)]] W fun e w'=>(∃best ok,CN (bF l (bg l k (gK kk)) l.length) best ok∧e=.returned (.tuple #[best,ok]))∧Below W.heap.size W w'):=fun W bb=>
      zq W H v G l (HK.out.below (HFP.out.below bb).dY) _ _ _ k _ (HFP.out.below bb).bx hlt cb HZ.out
     have HPB:Hid (∀W,Below wr.heap.size wr W→W.cell? ⟨w.heap.size,0,none⟩=some (.pointer (some ⟨H,0,none⟩))):=fun W bb=>(HFP.out.below bb).bx.h
     unfold gP at hstep;clear hLN hv hFP KW HOKK;generalize hbk:gK kk=bk at*;have HBK:=hid hbk;generalize hbk1:gK (kk+1)=bk1 at hb2 HNX;have HBK1:=hid hbk1;clear hbk hbk1
     cases hany:(bG l k kk (aR l k)).any (bg l k bk)with
     |true=>
      rw[hany]at H1;rw[hany,if_pos rfl]at hstep;have HST:=hid hstep;clear hstep;go_wp2_with fail
      refine H1.out.mono ?_;rintro e w1 ⟨rfl,B1⟩;have HB1:Hid (Below wr.heap.size wr w1):=B1;have hq1:=HQ'.out w1 B1;clear B1;go_wp2_with fail
      go_roundg (8-(kk+1))
      case measure=>omega
      case rel=>exact ⟨kk+1,w1.heap.size,by omega,by omega,rfl,by rw[HST.out,HBK1.out];exact HNX.out w1 _ (HFP.out.below HB1.out)⟩
     |false=>
      rw[hany]at H1;rw[hany,if_neg (by decide)]at hstep;have HST:=hid hstep;clear hstep;go_wp2_with fail
      refine H1.out.mono ?_;rintro e w1 ⟨rfl,B1⟩;have HB1:Hid (Below wr.heap.size wr w1):=B1;have hq1:=HQ'.out w1 B1;have hb1':=HPB.out w1 B1;have H2:=hid (HSC.out w1 B1);clear B1 H1;go_wp2_with fail
      refine H2.out.mono ?_;rintro e w2 ⟨⟨best,ok,hsh,rfl⟩,B2⟩;have HB2:=hid (HB1.out.trans (B2.mono HB1.out.size));have hq2:=HQ'.out w2 HB2.out;clear B2 H2;rcases hsh with⟨ho,rfl,rfl⟩|⟨n,ho,rfl,rfl⟩
      ·rw[ho]at HST;go_wp2_with fail
       go_roundg (8-(kk+1))
       case measure=>omega
       case rel=>exact ⟨kk+1,w2.heap.size,by omega,by omega,rfl,by rw[HST.out,HBK1.out];exact HNX.out w2 _ (HFP.out.below HB2.out)⟩
      ·rw[ho]at HST;have hlow:=HL.out.1.lo;have H3:Hid (Calls Tryz.prog 140 #[.pointer (some ⟨w.heap.size+1,0,none⟩),.int .i64 (n:Nat)] w2 fun e w'=>e=.returned (.tuple #[])∧I4 w2 w.heap.size (w.heap.size+1) vl (bG l k kk (aR l k)) n w'):=
        CM w2 _ _ vl _ (HL.out.1.below HB2.out) (by have:=HB2.out.size;omega) HNK.out n
       go_wp2_with fail
       refine H3.out.mono ?_;rintro e w3 ⟨rfl,t3⟩;have f3:=(HFP.out.below HB2.out).added HL.out.2 t3 hlow;have HF3:=hid f3;have hq3:=f3.bx.q;clear t3 f3 H3;go_wp2_with fail
       go_roundg (8-(kk+1))
       case measure=>omega
       case rel=>exact ⟨kk+1,w3.heap.size,by omega,by omega,rfl,by rw[HST.out,HBK1.out];exact HNX.out w3 _ HF3.out⟩
    ·obtain rfl:kk=8:=by omega
     have hq:=hFP.bx.q;have HFS:=hid hFP.fs;clear hFP;go_wp2_with fail
     go_roundw
     case rel=>exact ⟨k+1,by omega,by go_num,HFS.out⟩
     case measure=>simp [intOf];omega
  ·have hi1:¬(k:Int)<64:=(by omega);have hk64:k=64:=(by omega);have hF':FS w wr H (cu l):=by rw[hk64]at hF;exact hF
   obtain⟨vl,hLN,_⟩:=hF'.ln
   have hok:=iM l;have hcl:(cu l).length≤l.length:=by
    have h3:=hok.nodup.length_le_of_subset (l₂:=List.range l.length) (fun x hx=>List.mem_range.2 (hok.lt x hx));simpa using h3
   have H1:Hid (Calls Tryz.prog 141 #[.pointer (some ⟨w.heap.size+1,0,none⟩)] wr fun e w'=>(∃v',e=.returned v'∧w'.ownsRow wr.heap.size 3 1 v' (cu l).length ((cu l).map fun n=>.int .i64 ((n:Nat):Int)))∧Below wr.heap.size wr w'):=CO wr _ _ vl _ hLN (by omega);have HB:Hid (Below w.heap.size w wr):=hF'.dY;have HLE:Hid ((cu l).length≤1000000):=by show _≤_;omega
   have HSF:Hid (∀v1 w1,w1.ownsRow wr.heap.size 3 1 v1 (cu l).length ((cu l).map fun n=>.int .i64 ((n:Nat):Int))→Calls Tryz.prog 142 #[v1] w1 fun e w'=>e=.returned (.tuple #[])∧w'.ownsRow wr.heap.size 3 1 v1 (bE l).length ((bE l).map fun n=>.int .i64 ((n:Nat):Int))∧Below wr.heap.size w1 w'):=fun v1 w1 hr=>by
    have:=ER w1 wr.heap.size v1 ((cu l).map fun n=>((n:Nat):Int)) (by rw[List.length_map,List.map_map];exact hr) (by rw[List.length_map];exact HLE.out)
    rw[EP,List.length_map,List.map_map,←(wD l).length_eq]at this;exact this
   clear hF hF' hLN hok hcl hk64;go_wp2_with fail
   refine H1.out.mono ?_;rintro e w1 ⟨⟨v1,rfl,hr1⟩,B1⟩;have hf1:=aO hr1;have HS:Hid (Calls Tryz.prog 142 #[v1] w1 fun e w'=>e=.returned (.tuple #[])∧w'.ownsRow wr.heap.size 3 1 v1 (bE l).length ((bE l).map fun n=>.int .i64 ((n:Nat):Int))∧Below wr.heap.size w1 w'):=HSF.out v1 w1 hr1;have HB1:Hid (Below wr.heap.size wr w1):=B1;clear hr1 B1 H1;have HS':Hid (Calls Tryz.prog 142 #[v1] w1 fun e w'=>e=.returned (.tuple #[])∧Hid (w'.ownsRow w.heap.size 3 1 v1 (bE l).length ((bE l).map fun n=>.int .i64 ((n:Nat):Int))∧Below w.heap.size w w')):=HS.out.mono fun e w' ⟨a,b,c⟩=>⟨a,ES b HB.out.size,HB.out.trans ((HB1.out.trans c).mono HB.out.size)⟩
   clear HS;rcases hf1 with⟨rfl,h0⟩|⟨b',cap',rfl,_⟩;all_goals
    go_wp2_with fail
    refine HS'.out.mono ?_;rintro e w2 ⟨rfl,HR⟩;go_wp2_with fail
    go_ret
    exact⟨⟨_,rfl,HR.out.1⟩,HR.out.2⟩
end Go.Proofs.YtmpgjkhchfcjlaaGreatDoor
