import Derived.Test.YtmpgjkhchfcjlaaGreatDoorM18
import Derived.Test.YtmpgjkhchfcjlaaGreatDoorM19
namespace Go.Proofs.YtmpgjkhchfcjlaaGreatDoor
open Go.RowKit
set_option maxRecDepth 100000
set_option maxHeartbeats 2000000
theorem gm {B h fo g cap:Nat}{l:List Int}(hg:B≤g)(hh:h<B)(x:Int)(n:Nat)(h1:1≤n)(h2:n≤1000)(w:World)(T:eM w g cap l)(s:Sd w h fo x):
  Calls Tryz.prog 117 #[.pointer (some ⟨h,fo,none⟩),.int .i64 n] w (uw w B h fo g cap l (dr x n) (sd x)):=
 (jc w B h fo g cap l x T s hg hh n h1 h2).mono fun _ _ d=>d.LP
theorem Ev (w:World)(B h fo g cap:Nat)(l:List Int)(o:ByteArray)(x:Int)(T:eM w g cap l)(s:Sd w h fo x)(hg:B≤g)(hh:h<B)(hL:l.length≤24)(ho:o.size≤24):
  Calls Tryz.prog 118 #[.slice (some ⟨g,0,none⟩) l.length cap,.string o,.pointer (some ⟨h,fo,none⟩)] w (mB w B h fo (eY l (nums o) x).1 (eY l (nums o) x).2):=by
 have H0:=hid (gm hg hh x 6 (by omega) (by omega) w T s);have hw:=dP x 6 (by omega);unfold eY;dsimp only;generalize dr x 6=k at H0 hw⊢;by_cases h0:l.length=0∧k≠3∧k≠4
 ·rw[if_pos h0];exact yU w B h fo g cap l o hg k (by omega) h0.1 (sd x) H0
 rw[if_neg h0];match k,hw with
 |0,_=>
  rw[if_pos rfl];exact Et w B h fo g cap l o hg hh hL _ (dP _ _ (by omega)) _ _ H0 (fun w1 T1 s1=>gm hg hh (sd x) (8*l.length) (by omega) (by omega) w1 T1 s1)
 |1,_=>
  rw[if_neg (by decide),if_pos rfl];exact Cp w B h fo g cap l o hg hh _ _ (dP _ _ (by omega)) (dP _ _ (by omega)) _ _ _ H0 (fun w1 T1 s1=>gm hg hh (sd x) l.length (by omega) (by omega) w1 T1 s1) (fun w1 T1 s1=>gm hg hh (sd (sd x)) 256 (by omega) (by omega) w1 T1 s1)
 |2,_=>
  rw[if_neg (by decide),if_neg (by decide),if_pos rfl];exact Eu w B h fo g cap l o hg hh hL _ (dP _ _ (by omega)) _ _ H0 (fun w1 T1 s1=>gm hg hh (sd x) l.length (by omega) (by omega) w1 T1 s1)
 |3,_=>
  rw[if_neg (by decide),if_neg (by decide),if_neg (by decide),if_pos rfl];by_cases h24:24≤l.length
  ·rw[if_pos h24];exact Av w B h fo g cap l o l _ _ H0 (fun w1 T1 s1=>yS w1 B h fo g cap l _ T1 s1 hg (by omega))
  ·rw[if_neg h24];exact Av w B h fo g cap l o _ _ _ H0 (fun w1 T1 s1=>Cn w1 B h fo g cap l _ T1 s1 hg hh (by omega))
 |4,_=>
  rw[if_neg (by decide),if_neg (by decide),if_neg (by decide),if_neg (by decide),if_pos rfl,af];exact yV w B h fo g cap l o _ _ _ H0 (fun w1 T1 s1=>Co w1 B h fo g cap l o _ T1 s1 hg hh hL ho)
 |5,_=>
  rw[if_neg (by decide),if_neg (by decide),if_neg (by decide),if_neg (by decide),if_neg (by decide)];exact Cq w B h fo g cap l o hg hh _ _ (dP _ _ (by omega)) (dP _ _ (by omega)) _ _ _ H0 (fun w1 T1 s1=>gm hg hh (sd x) l.length (by omega) (by omega) w1 T1 s1) (fun w1 T1 s1=>gm hg hh (sd (sd x)) l.length (by omega) (by omega) w1 T1 s1)
 |k+6,hk=>omega
structure LQ (w:World) (B h fo:Nat) (l:List Int) (x:Int) (v:Value) (w':World):Prop where
 is:∃g cap,B≤g∧v=.slice (some ⟨g,0,none⟩) l.length cap∧eM w' g cap l∧Sd w' h fo x∧SK B h fo w w'
theorem yX (w:World)(B h fo:Nat)(s o:ByteArray)(hs:s.size≤24)(n:Nat)(hn:n≤3)(x1:Int)(F:Nat→List Int×Int)(hF0:F 0=(nums s,x1))
  (hh:h<B)(hB:B≤w.heap.size)(x0:Int)(hsd:Sd w h fo x0)
  (H0:Hid (∀w1 cap,eM w1 w.heap.size cap (nums s)→Sd w1 h fo x0→Calls Tryz.prog 117 #[.pointer (some ⟨h,fo,none⟩),.int .i64 4] w1 (uw w1 B h fo w.heap.size cap (nums s) n x1)))
  (H1:Hid (∀i w1 g cap,eM w1 g cap (F i).1→Sd w1 h fo (F i).2→B≤g→Calls Tryz.prog 118 #[.slice (some ⟨g,0,none⟩) (F i).1.length cap,.string o,.pointer (some ⟨h,fo,none⟩)] w1 (mB w1 B h fo (F (i+1)).1 (F (i+1)).2))):
  Calls Tryz.prog 72 #[.string s,.string o,.pointer (some ⟨h,fo,none⟩)] w fun e w'=>e=.returned (.string (strOfNums (F (1+n)).1))∧Sd w' h fo (F (1+n)).2∧SK B h fo w w':=by
 obtain⟨w1,kD,hconv,T1,B1,hsz1⟩:=Ar w s (by omega)
 have HB1:Hid (SK B h fo w w1):=SK.dZ B1 hB hh;have HT1:Hid (eM w1 w.heap.size kD (nums s)):=T1;have HS1:Hid (Sd w1 h fo x0):=hsd.below B1 (by omega);have H0':Hid (Calls Tryz.prog 117 #[.pointer (some ⟨h,fo,none⟩),.int .i64 4] w1 (uw w1 B h fo w.heap.size kD (nums s) n x1)):=H0.out w1 kD T1 HS1.out;have HF0:Hid (F 0=(nums s,x1)):=hF0;generalize LR:s.size=L at hconv;clear T1 B1 hsd hF0;go_in;go_wp2_with fail
 refine H0'.out.mono ?_;rintro e w2 ⟨rfl,T2,s2,B2⟩;have HW:Hid (LQ w B h fo (F 0).1 (F 0).2 (.slice (some ⟨w.heap.size,0,none⟩) L kD) w2):=by
  rw[HF0.out]
  exact⟨_,kD,hB,by rw[af,LR],T2,s2,HB1.out.trans B2⟩
 clear T2 s2 B2;go_wp2_with fail
 go_loopw [7,13] (fun v i wr=>∃k:Nat,k≤1+n∧i=.int .i64 k∧LQ w B h fo (F k).1 (F k).2 v wr) (fun _ i _=>1+n-(intOf i).toNat)
 case atStart=>exact ⟨0,by omega,rfl,HW.out⟩
 case round=>
  obtain⟨k,hk,rfl,⟨g,cap,hg,rfl,T,s',BB⟩⟩:=hrel
  by_cases hlt':k<1+n
  ·have hi1:(k:Int)<1+(n:Int):=(by omega);have HC:Hid (Calls Tryz.prog 118 #[.slice (some ⟨g,0,none⟩) (F k).1.length cap,.string o,.pointer (some ⟨h,fo,none⟩)] wr (mB wr B h fo (F (k+1)).1 (F (k+1)).2)):=H1.out k wr g cap T s' hg
   generalize(F k).1.length=Lk at HC⊢
   go_wp2_with fail
   refine HC.out.mono ?_;rintro e w3 ⟨g3,cap3,hg3,rfl,T3,s3,B3⟩;have HW3:Hid (LQ w B h fo (F (k+1)).1 (F (k+1)).2 (.slice (some ⟨g3,0,none⟩) (F (k+1)).1.length cap3) w3):=⟨g3,cap3,hg3,rfl,T3,s3,BB.trans B3⟩
   generalize(F (k+1)).1.length=Lk1 at HW3⊢
   clear T3 s3 B3;go_wp2_with fail
   go_roundw
   case rel=>exact ⟨k+1,by omega,by go_num,HW3.out⟩
   case measure=>simp [intOf];omega
  ·have hi1:¬(k:Int)<1+(n:Int):=(by omega);obtain rfl:k=1+n:=by omega
   have cv:=fF T
   obtain⟨st,hst⟩:∃st,strOfNums (F (1+n)).1=st:=⟨_,rfl⟩
   rw[hst]at cv;have HST:Hid (strOfNums (F (1+n)).1=st):=hst;clear hst
   generalize(F (1+n)).1.length=Lk at cv⊢
   go_wp2_with fail
   go_ret
   exact⟨by rw[HST.out];rfl,s',BB⟩
theorem qW {l o:List Int}(hl:l.length≤24)(ho:o.length≤24)(x:Int)(n:Nat):(cN l o x n).1.length≤24:=(oz hl ho x n).1
theorem Ew (s o:ByteArray)(hs:s.size≤24)(ho:o.size≤24)(x:Int):∃(n:Nat) (x1:Int) (F:Nat→List Int×Int),n=dr x 4∧x1=sd x∧n≤3∧F 0=(nums s,x1)∧(∀i,F (i+1)=eY (F i).1 (nums o) (F i).2)∧(∀i,(F i).1.length≤24)∧F (1+n)=j8 (nums s) (nums o) x:=by
 refine⟨dr x 4,sd x,fun i=>cN (nums s) (nums o) (sd x) i,rfl,rfl,?_,rfl,fun i=>rfl,fun i=>qW (by rw[af];exact hs) (by rw[af];exact ho) _ _,by unfold j8;rfl⟩
 have:=dP x 4 (by omega)
 omega
theorem td (w:World)(B h fo:Nat)(s o:ByteArray)(hs:s.size≤24)(ho:o.size≤24)(hh:h<B)(hB:B≤w.heap.size)(x:Int)(hsd:Sd w h fo x):
  Calls Tryz.prog 72 #[.string s,.string o,.pointer (some ⟨h,fo,none⟩)] w fun e w'=>e=.returned (.string (strOfNums (j8 (nums s) (nums o) x).1))∧Sd w' h fo (j8 (nums s) (nums o) x).2∧SK B h fo w w':=by
 obtain⟨n,x1,F,hn,hx1,hn3,hF0,hFs,hFl,hFn⟩:=Ew s o hs ho x
 rw[←hFn];refine yX w B h fo s o hs n hn3 x1 F hF0 hh hB x hsd (fun w1 cap T1 s1=> ?_) (fun i w1 g cap T s' hg=> ?_)
 ·rw[hn,hx1];exact gm hB hh x 4 (by omega) (by omega) w1 T1 s1
 ·rw[hFs i];exact Ev w1 B h fo g cap _ o _ T s' hg hh (hFl i) ho
structure bU (w:World) (t:ByteArray) (y:Int) (e:Ending) (w':World):Prop where
 dY:Below w.heap.size w w'
 Ks:e=.returned (.tuple #[.string t,.int .u64 y])
theorem yY (w:World)(s o t:ByteArray)(hs:s.size≤24)(ho:o.size≤24)(x y:Int)
  (H:Hid (Calls Tryz.prog 72 #[.string s,.string o,.pointer (some ⟨w.heap.size,0,none⟩)] (w.alloc (.cells #[.int .u64 x] 121)) fun e w'=>e=.returned (.string t)∧Sd w' w.heap.size 0 y∧Below w.heap.size (w.alloc (.cells #[.int .u64 x] 121)) w')):
  Calls Tryz.prog 34 #[.string s,.string o,.int .u64 x] w (bU w t y):=by
 generalize hL:s.size=L at hs;generalize hO:o.size=O at ho;have h1:¬(24:Int)<(L:Int):=by omega
 have h2:¬(24:Int)<(O:Int):=by omega
 go_in;go_wp2_with fail
 refine H.out.mono ?_;rintro e w1 ⟨rfl,s1,B1⟩;have hc:=s1.cell;have hlt:=s1.lt;have HB:Hid (Below w.heap.size w w1):=((Below.refl _ _).alloc (Nat.le_refl _) _).trans B1;clear s1 B1;go_wp2_with fail
 go_quiet(fail)
 go_wp2_with fail
 go_ret2
 exact⟨⟨HB.out.os,HB.out.tape,HB.out.output,HB.out.size,HB.out.block⟩,rfl⟩
theorem Cs (w:World)(s o:ByteArray)(hs:s.size≤24)(ho:o.size≤24)(x:Int)(h0:0≤x)(h1:x≤18446744073709551615):
  Calls Tryz.prog 34 #[.string s,.string o,.int .u64 x] w (bU w (strOfNums (j8 (nums s) (nums o) x).1) (j8 (nums s) (nums o) x).2):=
 yY w s o _ hs ho x _ ((td (w.alloc (.cells #[.int .u64 x] 121)) (w.heap.size+1) w.heap.size 0 s o hs ho (by omega) (by simp) x ⟨by rw[World.cell?_alloc_new];rfl,World.frozen?_alloc_at (w:=w) _ _ w.heap.size 0 rfl,h0,h1⟩).mono fun _ _ ⟨a,b,c⟩=>⟨a,b,c.below (by omega)⟩)
theorem yZ (w:World)(s o:ByteArray)(hsz:s.size≤9223372036854775807)(hoz:o.size≤9223372036854775807)(hl:24<s.size∨24<o.size)(x:Int):
  Calls Tryz.prog 34 #[.string s,.string o,.int .u64 x] w (bU w ⟨#[]⟩ x):=by
 generalize hL:s.size=L at hsz hl;generalize hO:o.size=O at hoz hl;by_cases h1:24<L
 ·have h1':(24:Int)<(L:Int):=by omega
  go_in;go_wp2_with fail
  go_ret2
  exact⟨Below.refl _ _,rfl⟩
 ·have h1':¬(24:Int)<(L:Int):=by omega
  have h2':(24:Int)<(O:Int):=by omega
  go_in;go_wp2_with fail
  go_ret2
  exact⟨Below.refl _ _,rfl⟩
def z7 (s:ByteArray)(n:Int):Option (List Int):=if 24<s.size∨n<0 then none else cL (nums s) n.toNat
theorem wM (w:World)(hM:kT w)(s:ByteArray)(hsz:s.size≤9223372036854775807)(n:Int)(h1: -9223372036854775808≤n)(h2:n≤9223372036854775807):
  Calls Tryz.prog 32 #[.string s,.int .i64 n] w (fq w (z7 s n)):=by
 unfold z7;by_cases hl:24<s.size
 ·rw[if_pos (Or.inl hl)];generalize hL:s.size=L at hsz hl;have hl':(24:Int)<(L:Int):=by omega
  go_in;go_wp2_with fail
  go_ret2
  exact⟨Below.refl _ _,rfl⟩
 ·by_cases hn:n<0
  ·rw[if_pos (Or.inr hn)];have HC:Hid (Calls Tryz.prog 69 #[.string s,.int .i64 n] w (fq w none)):=by
    show Calls _ _ _ _ _;go_in;go_wp2_with fail
    go_ret2
    exact⟨Below.refl _ _,rfl⟩
   generalize hL:s.size=L at hsz hl;have hl':¬(24:Int)<(L:Int):=(by omega);go_in;go_wp2_with fail
   refine HC.out.mono ?_;rintro e w1 ⟨B1,rfl⟩;go_wp2_with fail
   go_ret2
   exact⟨B1,rfl⟩
  ·rw[if_neg (by omega)]
   obtain⟨m,rfl⟩:∃m:Nat,n=m:=⟨n.toNat,by omega⟩
   have HC:=hid (pH s (by omega) m (by omega) w hM);rw[Int.toNat_natCast];generalize cL (nums s) m=ot at HC⊢;generalize hL:s.size=L at hsz hl;have hl':¬(24:Int)<(L:Int):=(by omega);go_in;go_wp2_with fail
   refine HC.out.mono ?_;rintro e w1 ⟨B1,rfl⟩
   cases ot with
   |none=>
    go_wp2_with fail
    go_ret2
    exact⟨B1,rfl⟩
   |some t=>
    go_wp2_with fail
    go_ret2
    exact⟨B1,rfl⟩
structure jI (w:World) (t:ByteArray) (e:Ending) (w':World):Prop where
 dY:Below w.heap.size w w'
 Ks:e=.returned (.string t)
theorem Hy (s:ByteArray)(i:Nat)(b:Int)(hi:i<s.size)(h0:0≤b)(h1:b≤255):s.extract 0 i++strOfNums [b]++s.extract (i+1) s.size=strOfNums ((nums s).set i b):=by
 apply eX;rw[bN,bN,aU,aU,bz (fE h0 h1),bz ((bt s).set i h0 h1),List.set_eq_take_append_cons_drop,if_pos (by rw[af];exact hi)];rw[List.drop_zero,Nat.sub_zero,List.take_of_length_le (i:=s.size-(i+1)) (by simp[af])]
 simp
theorem Ct (w:World)(s t0:ByteArray)(i L:Nat)(b:Int)(hL:s.size=L)(hi:i<L)(hs:L≤1000)(ht0:strOfNums [b]=t0):
  Calls Tryz.prog 71 #[.string s,.int .i64 i,.int .u8 b] w (jI w (s.extract 0 i++t0++s.extract (i+1) L)):=by
 have h1:(0:Int)≤(i:Int):=by omega
 have h2:(i:Int)≤(L:Int):=by omega
 have h3:(0:Int)≤(i:Int)+1:=by omega
 have h4:(i:Int)+1≤(L:Int):=by omega
 have htn:((i:Int)+1).toNat=i+1:=by omega
 have hmin:min i L=i:=by omega
 have hts:t0.size=1:=by rw[←ht0];rfl
 have hcv:(convert 39 9 (.slice (some ⟨w.heap.size,0,none⟩) 1 1)).run Tryz.prog (w.alloc (.cells #[.int .u8 b] 5)).drew=.ok (.string t0) (w.alloc (.cells #[.int .u8 b] 5)).drew:=by
  rw[←ht0];exact run_convert_bytes_arg _ 39 5 Tryz.underlying39 Tryz.underlying5 w.heap.size 0 1 1 [b] rfl (fun j hj=>by
   have e:(w.alloc (.cells #[.int .u8 b] 5)).drew.cell? ⟨w.heap.size,0+j,none⟩=#[Value.int .u8 b][0+j]?:=World.cell?_alloc_new w #[.int .u8 b] 5 (0+j);rw[e];match j,hj with
   |0,_=>rfl
   |j+1,hj=>simp at hj) 9 Tryz.underlying9
 go_in;go_wp2_with fail
 go_region
 all_goals
  go_wp2;go_ret
  exact⟨((Below.refl _ _).alloc (Nat.le_refl _) _).drew,rfl⟩
theorem jd (w:World)(s:ByteArray)(i:Nat)(b:Int)(hi:i<s.size)(hs:s.size≤1000)(h0:0≤b)(h1:b≤255):
  Calls Tryz.prog 71 #[.string s,.int .i64 i,.int .u8 b] w (jI w (strOfNums ((nums s).set i b))):=by
 rw[←Hy s i b hi h0 h1];exact Ct w s _ i s.size b rfl hi hs rfl
theorem jA (s:ByteArray)(q:Nat)(hq:q<s.size)(W:World):(Instr.index 9 (.string s) (.int .i64 (q:Int))).run Tryz.prog W=.ok (.int .u8 ((nums s).getD q 0)) W:=by
 rw[run_index_string W _ _ _ _ Tryz.underlying9,dif_pos ⟨by omega,by omega⟩,←lp s q hq];rfl
theorem z8 {w w':World}{s t:ByteArray}{q:Nat}{b b':Int}(B:Below w.heap.size w w')(h:b=b')(ht:t=strOfNums ((nums s).set q b')):jI w t (.returned (.string (strOfNums ((nums s).set q b)))) w':=by
 subst h;rw[ht]
 exact⟨B,rfl⟩
theorem JO (w:World)(s t:ByteArray)(K p:Int)(q r m:Nat)(h4:0≤K)(h1:K/8=(q:Int))(h2:K%8=(r:Int))(hm:r+m=7)(hp:IntKind.u8.wrap (2^m)=p)(hq:q<s.size)(hs:s.size≤1000)(ht:t=strOfNums ((nums s).set q (bits .xor .u8 ((nums s).getD q 0) p))):
  Calls Tryz.prog 70 #[.string s,.int .i64 K] w (jI w t):=by
 have g1:IntKind.i64.wrap (K.tdiv 8)=(q:Int):=by rw[Int.tdiv_eq_ediv_of_nonneg h4,h1,IntKind.wrap_i64];omega
 have g2:K.tmod 8=(r:Int):=by rw[Int.tmod_eq_emod_of_nonneg h4,h2]
 have g3:IntKind.i64.wrap (7-(r:Int))=(m:Int):=by rw[IntKind.wrap_i64];omega
 have g4:(7:Int)-(r:Int)=(m:Int):=by omega
 have HW:=hid hp;have g5:IntKind.i64.wrap (m:Int)=(m:Int):=by rw[IntKind.wrap_i64];omega
 have h3:(q:Int)<(s.size:Int):=by omega
 have HT:=hid ht;have HP:Hid (∀x y,Calls Tryz.prog 71 #[.string s,.int .i64 q,.int .u8 (bits .xor .u8 x y)] w.drew (jI w.drew (strOfNums ((nums s).set q (bits .xor .u8 x y))))):=fun x y=>jd w.drew s q _ hq hs (jv _ _ _).1 (jv _ _ _).2
 have hidx:=jA s q hq
 obtain⟨x,hx⟩:∃x,(nums s).getD q 0=x:=⟨_,rfl⟩
 rw[hx]at hidx HT;clear ht hx h1 h2 hp;have hm8:m≤7:=by omega
 clear hm;go_in;go_wp2_with fail
 go_region_with(go_at_call 71;refine(HP.out _ _).mono ?_;rintro e w' ⟨B,rfl⟩)
 go_wp2;go_ret;exact z8 ((Below.refl _ _).drew.trans B) rfl (by rw[HW.out];exact HT.out)
theorem lX (w:World)(s:ByteArray)(k:Nat)(hk:k<8*s.size)(hs:s.size≤1000):
  Calls Tryz.prog 70 #[.string s,.int .i64 k] w (jI w (strOfNums (e9 (nums s) k))):=by
 have hq:k/8<s.size:=by omega
 have h1:(k:Int)/8=((k/8:Nat):Int):=by omega
 have h0:(0:Int)≤(k:Int):=by omega
 have hr:k%8<8:=by omega
 have h2:(k:Int)%8=((k%8:Nat):Int):=by omega
 unfold e9;generalize k%8=r at hr h2⊢;have hp:∀r:Fin 8,IntKind.u8.wrap (2^(7-(r:Nat)))=2^(7-(r:Nat)):=by decide
 exact JO w s _ k _ _ r (7-r) h0 h1 h2 (by omega) (hp ⟨r,hr⟩) hq hs rfl
theorem kM {w w':World}{s:ByteArray}{q:Nat}{b b':Int}{o:Option (List Int)}(B:Below w.heap.size w w')(h:b=b')(ho:o=some ((nums s).set q b')):fq w o (.returned (.tuple #[.string (strOfNums ((nums s).set q b)),.bool true])) w':=by
 subst h;rw[ho]
 exact⟨B,rfl⟩
theorem Ig (x:Int)(h0:0≤x)(h1:x≤255):bits .xor .u8 x 255=255-x:=by
 obtain⟨n,rfl⟩:∃n:Nat,x=n:=⟨x.toNat,by omega⟩
 have h:∀n:Nat,n<256→bits .xor .u8 (n:Int) 255=255-(n:Int):=by decide+kernel
 exact h n (by omega)
theorem AU (s:ByteArray)(i:Nat):s.extract 0 i++s.extract (i+1) s.size=strOfNums (mA (nums s) i):=by
 apply eX;rw[bN,aU,aU,bz (Ao (bt s) i),mA];rw[List.drop_zero,Nat.sub_zero,List.take_of_length_le (i:=s.size-(i+1)) (by simp[af])]
theorem D1 (s:ByteArray)(i:Nat)(hi:i<s.size):s.extract 0 (i+1)++s.extract i s.size=strOfNums (mW (nums s) i):=by
 have hb:=(bt s).at i;apply eX;rw[bN,aU,aU,mW,bz (ug (bt s) i hb.1 hb.2)];rw[List.drop_zero,Nat.sub_zero,List.take_of_length_le (i:=s.size-i) (by simp[af])];have hl:i<(nums s).length:=by rw[af];exact hi
 have e1:(nums s).take (i+1)=(nums s).take i++[(nums s).getD i 0]:=by
  rw[List.take_add_one,List.getElem?_eq_getElem hl,List.getD_eq_getElem?_getD,List.getElem?_eq_getElem hl];rfl
 rw[e1]
 simp
theorem Fk (n:Nat):cL [] n=none:=by
 rw[gC];simp[fN,aJ]
theorem L5 (w:World)(s:ByteArray)(L n:Nat)(hL:s.size=L)(hs:L≤24)(h0:n<8*L):
  Calls Tryz.prog 33 #[.string s,.int .i64 n] w (fq w (cL (nums s) n)):=by
 have HANS:Hid (cL (nums s) n=some (ey (nums s) n 0)):=by
  show _=_;have hl:(nums s).length=L:=by rw[af,hL]
  rw[gC];rw[fN,hl];exact if_pos h0
 have hne:¬((L:Int)=0):=by omega
 have hbig:¬(24:Int)<(L:Int):=by omega
 have hneg:¬((n:Int)<0):=by omega
 have f0:(n:Int)<8*(L:Int):=by omega
 have HC:=hid (lX w s n (by omega) (by omega));go_in;go_wp2_with fail
 refine HC.out.mono ?_;rintro e w1 ⟨B1,rfl⟩;go_wp2_with fail
 go_ret2;rw[HANS.out]
 exact⟨B1,rfl⟩
theorem L6 (w:World)(s:ByteArray)(L n n1:Nat)(hL:s.size=L)(hs:L≤24)(e1:n1=n-(8*L))(c0:¬n<8*L)(h1:n1<8*L-1):
  Calls Tryz.prog 33 #[.string s,.int .i64 n] w (fq w (cL (nums s) n)):=by
 have HANS:Hid (cL (nums s) n=some (ey (nums s) n1 1)):=by
  show _=_;have hl:(nums s).length=L:=by rw[af,hL]
  rw[gC];rw[aQ (nums s) 7 0 n L hl (show ¬n<aJ L 0 from c0),show n-aJ L 0=n1 from e1.symm];rw[fN,hl];exact if_pos h1
 have hne:¬((L:Int)=0):=by omega
 have hbig:¬(24:Int)<(L:Int):=by omega
 have hneg:¬((n:Int)<0):=by omega
 have f0:¬(n:Int)<8*(L:Int):=by omega
 have g1:(n:Int)-8*(L:Int)=(n1:Int):=by omega
 have f1:(n1:Int)<8*(L:Int)-1:=by omega
 have hmn:n≤1000:=by omega
 have HC:=hid (lX w s n1 (by omega) (by omega));have HD:Hid (∀w',Calls Tryz.prog 70 #[.string (strOfNums (e9 (nums s) n1)),.int .i64 ((n1:Int)+1)] w' (jI w' (strOfNums (e9 (e9 (nums s) n1) (n1+1))))):=fun w'=>by
  have hsz:(strOfNums (e9 (nums s) n1)).size=L:=by rw[strOfNums_size,jU,af,hL]
  have:=lX w' (strOfNums (e9 (nums s) n1)) (n1+1) (by omega) (by omega)
  rw[bz (wq (bt s) n1)]at this;exact this
 obtain⟨t1,ht1⟩:∃t1,strOfNums (e9 (nums s) n1)=t1:=⟨_,rfl⟩
 rw[ht1]at HC HD;clear e1 c0;go_in;go_wp2_with fail
 refine HC.out.mono ?_;rintro e w1 ⟨B1,rfl⟩;go_wp2_with fail
 refine(HD.out w1).mono ?_
 rintro e w2 ⟨B2,rfl⟩;go_wp2_with fail
 go_ret2;rw[HANS.out]
 exact⟨B1.trans (B2.mono B1.size),rfl⟩
theorem L8 (w:World)(s:ByteArray)(L n n1 n2:Nat)(hL:s.size=L)(hs:L≤24)(e1:n1=n-(8*L))(c0:¬n<8*L)(e2:n2=n1-(8*L-1))(c1:¬n1<8*L-1)(h2:n2<L):
  Calls Tryz.prog 33 #[.string s,.int .i64 n] w (fq w (cL (nums s) n)):=by
 have HANS:Hid (cL (nums s) n=some (ey (nums s) n2 2)):=by
  show _=_;have hl:(nums s).length=L:=by rw[af,hL]
  rw[gC];rw[aQ (nums s) 7 0 n L hl (show ¬n<aJ L 0 from c0),show n-aJ L 0=n1 from e1.symm];rw[aQ (nums s) 6 1 n1 L hl (show ¬n1<aJ L 1 from c1),show n1-aJ L 1=n2 from e2.symm];rw[fN,hl];exact if_pos h2
 have hne:¬((L:Int)=0):=by omega
 have hbig:¬(24:Int)<(L:Int):=by omega
 have hneg:¬((n:Int)<0):=by omega
 have f0:¬(n:Int)<8*(L:Int):=by omega
 have g1:(n:Int)-8*(L:Int)=(n1:Int):=by omega
 have f1:¬(n1:Int)<8*(L:Int)-1:=by omega
 have g2:(n1:Int)-(8*(L:Int)-1)=(n2:Int):=by omega
 have f2:(n2:Int)<(L:Int):=by omega
 have hmn:n≤1000:=by omega
 have hqL:n2<s.size:=by omega
 have hx:=lp s n2 hqL;have hxb:=(bt s).at n2;generalize hxx:(nums s).getD n2 0=x at hx hxb;have HXX:=hid hxx;clear hxx;have hqI:(n2:Int)<(L:Int):=by omega
 have hqI2:(n2:Int)<(s.size:Int):=by omega
 clear e1 c0 e2 c1;go_in;go_wp2_with fail
 refine(jd _ s n2 _ (by omega) (by omega) (by omega) (by omega)).mono ?_
 rintro e w1 ⟨B1,rfl⟩;go_wp2_with fail
 go_ret2;refine kM B1 ?_ HANS.out;rw[HXX.out,Ig x hxb.1 hxb.2]
theorem L9 (w:World)(s:ByteArray)(L n n1 n2 n3:Nat)(hL:s.size=L)(hs:L≤24)(e1:n1=n-(8*L))(c0:¬n<8*L)(e2:n2=n1-(8*L-1))(c1:¬n1<8*L-1)(e3:n3=n2-(L))(c2:¬n2<L)(h3:n3<4*L):
  Calls Tryz.prog 33 #[.string s,.int .i64 n] w (fq w (cL (nums s) n)):=by
 have HANS:Hid (cL (nums s) n=some (ey (nums s) n3 3)):=by
  show _=_;have hl:(nums s).length=L:=by rw[af,hL]
  rw[gC];rw[aQ (nums s) 7 0 n L hl (show ¬n<aJ L 0 from c0),show n-aJ L 0=n1 from e1.symm];rw[aQ (nums s) 6 1 n1 L hl (show ¬n1<aJ L 1 from c1),show n1-aJ L 1=n2 from e2.symm];rw[aQ (nums s) 5 2 n2 L hl (show ¬n2<aJ L 2 from c2),show n2-aJ L 2=n3 from e3.symm];rw[fN,hl];exact if_pos h3
 have hne:¬((L:Int)=0):=by omega
 have hbig:¬(24:Int)<(L:Int):=by omega
 have hneg:¬((n:Int)<0):=by omega
 have f0:¬(n:Int)<8*(L:Int):=by omega
 have g1:(n:Int)-8*(L:Int)=(n1:Int):=by omega
 have f1:¬(n1:Int)<8*(L:Int)-1:=by omega
 have g2:(n1:Int)-(8*(L:Int)-1)=(n2:Int):=by omega
 have f2:¬(n2:Int)<(L:Int):=by omega
 have g3:(n2:Int)-(L:Int)=(n3:Int):=by omega
 have f3:(n3:Int)<4*(L:Int):=by omega
 have hmn:n≤1000:=by omega
 obtain⟨q,r,hr,hqr⟩:∃q r,r<4∧n3=4*q+r:=⟨n3/4,n3%4,by omega,by omega⟩
 have hqL:q<s.size:=by omega
 have q1:(n3:Int)/4=(q:Int):=by omega
 have q2:(n3:Int)%4=(r:Int):=by omega
 have hdq:n3/4=q:=by omega
 have hdr:n3%4=r:=by omega
 have HANS2:=HANS.out;simp only[ey,hdq,hdr]at HANS2;have HA2:=hid HANS2;clear HANS2 hdq hdr;have HQR:=hid hqr;have hx:=lp s q hqL;have hxb:=(bt s).at q;generalize hxx:(nums s).getD q 0=x at hx hxb;have HXX:=hid hxx;clear hxx;have hqI:(q:Int)<(L:Int):=by omega
 have hqI2:(q:Int)<(s.size:Int):=by omega
 clear e1 c0 e2 c1 e3 c2;clear hqr HQR;match r,hr with
 |0,_|1,_|2,_|3,_=>
  simp at q2;go_in;go_wp2_with fail
  refine(jd _ s q _ (by omega) (by omega) (by omega) (by omega)).mono ?_
  rintro e w1 ⟨B1,rfl⟩;go_wp2_with fail
  go_ret2;refine kM B1 ?_ HA2.out;rw[HXX.out];omega
 |r+4,h=>omega
theorem La (w:World)(s:ByteArray)(L n n1 n2 n3 n4:Nat)(hL:s.size=L)(hs:L≤24)(e1:n1=n-(8*L))(c0:¬n<8*L)(e2:n2=n1-(8*L-1))(c1:¬n1<8*L-1)(e3:n3=n2-(L))(c2:¬n2<L)(e4:n4=n3-(4*L))(c3:¬n3<4*L)(h4:n4<4*L):
  Calls Tryz.prog 33 #[.string s,.int .i64 n] w (fq w (cL (nums s) n)):=by
 have HANS:Hid (cL (nums s) n=some (ey (nums s) n4 4)):=by
  show _=_;have hl:(nums s).length=L:=by rw[af,hL]
  rw[gC];rw[aQ (nums s) 7 0 n L hl (show ¬n<aJ L 0 from c0),show n-aJ L 0=n1 from e1.symm];rw[aQ (nums s) 6 1 n1 L hl (show ¬n1<aJ L 1 from c1),show n1-aJ L 1=n2 from e2.symm];rw[aQ (nums s) 5 2 n2 L hl (show ¬n2<aJ L 2 from c2),show n2-aJ L 2=n3 from e3.symm];rw[aQ (nums s) 4 3 n3 L hl (show ¬n3<aJ L 3 from c3),show n3-aJ L 3=n4 from e4.symm];rw[fN,hl];exact if_pos h4
 have hne:¬((L:Int)=0):=by omega
 have hbig:¬(24:Int)<(L:Int):=by omega
 have hneg:¬((n:Int)<0):=by omega
 have f0:¬(n:Int)<8*(L:Int):=by omega
 have g1:(n:Int)-8*(L:Int)=(n1:Int):=by omega
 have f1:¬(n1:Int)<8*(L:Int)-1:=by omega
 have g2:(n1:Int)-(8*(L:Int)-1)=(n2:Int):=by omega
 have f2:¬(n2:Int)<(L:Int):=by omega
 have g3:(n2:Int)-(L:Int)=(n3:Int):=by omega
 have f3:¬(n3:Int)<4*(L:Int):=by omega
 have g4:(n3:Int)-4*(L:Int)=(n4:Int):=by omega
 have f4:(n4:Int)<4*(L:Int):=by omega
 have hmn:n≤1000:=by omega
 obtain⟨q,r,hr,hqr⟩:∃q r,r<4∧n4=4*q+r:=⟨n4/4,n4%4,by omega,by omega⟩
 have hqL:q<s.size:=by omega
 have q1:(n4:Int)/4=(q:Int):=by omega
 have q2:(n4:Int)%4=(r:Int):=by omega
 have hdq:n4/4=q:=by omega
 have hdr:n4%4=r:=by omega
 have HANS2:=HANS.out;simp only[ey,hdq,hdr]at HANS2;have HA2:=hid HANS2;clear HANS2 hdq hdr;have HQR:=hid hqr;have hx:=lp s q hqL;have hxb:=(bt s).at q;generalize hxx:(nums s).getD q 0=x at hx hxb;have HXX:=hid hxx;clear hxx;have hqI:(q:Int)<(L:Int):=by omega
 have hqI2:(q:Int)<(s.size:Int):=by omega
 clear e1 c0 e2 c1 e3 c2 e4 c3;clear hqr HQR;match r,hr with
 |0,_|1,_|2,_|3,_=>
  simp at q2;go_in;go_wp2_with fail
  refine(jd _ s q _ (by omega) (by omega) (by omega) (by omega)).mono ?_
  rintro e w1 ⟨B1,rfl⟩;go_wp2_with fail
  go_ret2;refine kM B1 ?_ HA2.out;rw[HXX.out];omega
 |r+4,h=>omega
theorem Ld (w:World)(s:ByteArray)(L n n1 n2 n3 n4 n5:Nat)(hL:s.size=L)(hs:L≤24)(e1:n1=n-(8*L))(c0:¬n<8*L)(e2:n2=n1-(8*L-1))(c1:¬n1<8*L-1)(e3:n3=n2-(L))(c2:¬n2<L)(e4:n4=n3-(4*L))(c3:¬n3<4*L)(e5:n5=n4-(4*L))(c4:¬n4<4*L)(h5:n5<5*L):
  Calls Tryz.prog 33 #[.string s,.int .i64 n] w (fq w (cL (nums s) n)):=by
 have HANS:Hid (cL (nums s) n=some (ey (nums s) n5 5)):=by
  show _=_;have hl:(nums s).length=L:=by rw[af,hL]
  rw[gC];rw[aQ (nums s) 7 0 n L hl (show ¬n<aJ L 0 from c0),show n-aJ L 0=n1 from e1.symm];rw[aQ (nums s) 6 1 n1 L hl (show ¬n1<aJ L 1 from c1),show n1-aJ L 1=n2 from e2.symm];rw[aQ (nums s) 5 2 n2 L hl (show ¬n2<aJ L 2 from c2),show n2-aJ L 2=n3 from e3.symm];rw[aQ (nums s) 4 3 n3 L hl (show ¬n3<aJ L 3 from c3),show n3-aJ L 3=n4 from e4.symm];rw[aQ (nums s) 3 4 n4 L hl (show ¬n4<aJ L 4 from c4),show n4-aJ L 4=n5 from e5.symm];rw[fN,hl];exact if_pos h5
 have hne:¬((L:Int)=0):=by omega
 have hbig:¬(24:Int)<(L:Int):=by omega
 have hneg:¬((n:Int)<0):=by omega
 have f0:¬(n:Int)<8*(L:Int):=by omega
 have g1:(n:Int)-8*(L:Int)=(n1:Int):=by omega
 have f1:¬(n1:Int)<8*(L:Int)-1:=by omega
 have g2:(n1:Int)-(8*(L:Int)-1)=(n2:Int):=by omega
 have f2:¬(n2:Int)<(L:Int):=by omega
 have g3:(n2:Int)-(L:Int)=(n3:Int):=by omega
 have f3:¬(n3:Int)<4*(L:Int):=by omega
 have g4:(n3:Int)-4*(L:Int)=(n4:Int):=by omega
 have f4:¬(n4:Int)<4*(L:Int):=by omega
 have g5:(n4:Int)-4*(L:Int)=(n5:Int):=by omega
 have f5:(n5:Int)<5*(L:Int):=by omega
 have hmn:n≤1000:=by omega
 obtain⟨q,r,hr,hqr⟩:∃q r,r<5∧n5=5*q+r:=⟨n5/5,n5%5,by omega,by omega⟩
 have hqL:q<s.size:=by omega
 have q1:(n5:Int)/5=(q:Int):=by omega
 have q2:(n5:Int)%5=(r:Int):=by omega
 have hdq:n5/5=q:=by omega
 have hdr:n5%5=r:=by omega
 have HANS2:=HANS.out;simp only[ey,hdq,hdr]at HANS2;have HA2:=hid HANS2;clear HANS2 hdq hdr;have HQR:=hid hqr;have hqI:(q:Int)<(L:Int):=by omega
 have hqI2:(q:Int)<(s.size:Int):=by omega
 clear e1 c0 e2 c1 e3 c2 e4 c3 e5 c4;clear hqr HQR;match r,hr with
 |0,_|1,_|2,_|3,_|4,_=>
  simp at q2;go_in;go_wp2_with fail
  refine(jd _ s q _ (by omega) (by omega) (by omega) (by omega)).mono ?_
  rintro e w1 ⟨B1,rfl⟩;go_wp2_with fail
  go_ret2;refine kM (((Below.refl _ _).alloc (Nat.le_refl _) _).trans (B1.mono (by simp))) ?_ HA2.out;rfl
 |r+5,h=>omega
theorem Le (w:World)(s:ByteArray)(L n n1 n2 n3 n4 n5 n6:Nat)(hL:s.size=L)(hs:L≤24)(e1:n1=n-(8*L))(c0:¬n<8*L)(e2:n2=n1-(8*L-1))(c1:¬n1<8*L-1)(e3:n3=n2-(L))(c2:¬n2<L)(e4:n4=n3-(4*L))(c3:¬n3<4*L)(e5:n5=n4-(4*L))(c4:¬n4<4*L)(e6:n6=n5-(5*L))(c5:¬n5<5*L)(h6:n6<L):
  Calls Tryz.prog 33 #[.string s,.int .i64 n] w (fq w (cL (nums s) n)):=by
 have HANS:Hid (cL (nums s) n=some (ey (nums s) n6 6)):=by
  show _=_;have hl:(nums s).length=L:=by rw[af,hL]
  rw[gC];rw[aQ (nums s) 7 0 n L hl (show ¬n<aJ L 0 from c0),show n-aJ L 0=n1 from e1.symm];rw[aQ (nums s) 6 1 n1 L hl (show ¬n1<aJ L 1 from c1),show n1-aJ L 1=n2 from e2.symm];rw[aQ (nums s) 5 2 n2 L hl (show ¬n2<aJ L 2 from c2),show n2-aJ L 2=n3 from e3.symm];rw[aQ (nums s) 4 3 n3 L hl (show ¬n3<aJ L 3 from c3),show n3-aJ L 3=n4 from e4.symm];rw[aQ (nums s) 3 4 n4 L hl (show ¬n4<aJ L 4 from c4),show n4-aJ L 4=n5 from e5.symm];rw[aQ (nums s) 2 5 n5 L hl (show ¬n5<aJ L 5 from c5),show n5-aJ L 5=n6 from e6.symm];rw[fN,hl];exact if_pos h6
 have hne:¬((L:Int)=0):=by omega
 have hbig:¬(24:Int)<(L:Int):=by omega
 have hneg:¬((n:Int)<0):=by omega
 have f0:¬(n:Int)<8*(L:Int):=by omega
 have g1:(n:Int)-8*(L:Int)=(n1:Int):=by omega
 have f1:¬(n1:Int)<8*(L:Int)-1:=by omega
 have g2:(n1:Int)-(8*(L:Int)-1)=(n2:Int):=by omega
 have f2:¬(n2:Int)<(L:Int):=by omega
 have g3:(n2:Int)-(L:Int)=(n3:Int):=by omega
 have f3:¬(n3:Int)<4*(L:Int):=by omega
 have g4:(n3:Int)-4*(L:Int)=(n4:Int):=by omega
 have f4:¬(n4:Int)<4*(L:Int):=by omega
 have g5:(n4:Int)-4*(L:Int)=(n5:Int):=by omega
 have f5:¬(n5:Int)<5*(L:Int):=by omega
 have g6:(n5:Int)-5*(L:Int)=(n6:Int):=by omega
 have f6:(n6:Int)<(L:Int):=by omega
 have hmn:n≤1000:=by omega
 have HS:Hid (s.extract 0 n6++s.extract (n6+1) L=strOfNums (ey (nums s) n6 6)):=by rw[←hL];exact AU s n6
 have k1:(0:Int)≤(n6:Int):=by omega
 have k2:(n6:Int)≤(L:Int):=by omega
 have k3:(0:Int)≤(n6:Int)+1:=by omega
 have k4:(n6:Int)+1≤(L:Int):=by omega
 have k5:((n6:Int)+1).toNat=n6+1:=by omega
 clear e1 c0 e2 c1 e3 c2 e4 c3 e5 c4 e6 c5;go_in;go_wp2_with fail
 go_quiet(fail)
 go_wp2_with fail
 go_ret2;rw[HANS.out]
 refine⟨⟨rfl,rfl,rfl,Nat.le_refl _,fun _ _=>rfl⟩,?_⟩
 show Ending.returned (.tuple #[.string (s.extract 0 n6++s.extract (n6+1) L),.bool true])=_;rw[HS.out];rfl
theorem Lf (w:World)(s:ByteArray)(L n n1 n2 n3 n4 n5 n6 n7:Nat)(hL:s.size=L)(hs:L≤24)(e1:n1=n-(8*L))(c0:¬n<8*L)(e2:n2=n1-(8*L-1))(c1:¬n1<8*L-1)(e3:n3=n2-(L))(c2:¬n2<L)(e4:n4=n3-(4*L))(c3:¬n3<4*L)(e5:n5=n4-(4*L))(c4:¬n4<4*L)(e6:n6=n5-(5*L))(c5:¬n5<5*L)(e7:n7=n6-(L))(c6:¬n6<L)(h7:n7<L)(h24:L<24):
  Calls Tryz.prog 33 #[.string s,.int .i64 n] w (fq w (cL (nums s) n)):=by
 have HANS:Hid (cL (nums s) n=some (ey (nums s) n7 7)):=by
  show _=_;have hl:(nums s).length=L:=by rw[af,hL]
  rw[gC];rw[aQ (nums s) 7 0 n L hl (show ¬n<aJ L 0 from c0),show n-aJ L 0=n1 from e1.symm];rw[aQ (nums s) 6 1 n1 L hl (show ¬n1<aJ L 1 from c1),show n1-aJ L 1=n2 from e2.symm];rw[aQ (nums s) 5 2 n2 L hl (show ¬n2<aJ L 2 from c2),show n2-aJ L 2=n3 from e3.symm];rw[aQ (nums s) 4 3 n3 L hl (show ¬n3<aJ L 3 from c3),show n3-aJ L 3=n4 from e4.symm];rw[aQ (nums s) 3 4 n4 L hl (show ¬n4<aJ L 4 from c4),show n4-aJ L 4=n5 from e5.symm];rw[aQ (nums s) 2 5 n5 L hl (show ¬n5<aJ L 5 from c5),show n5-aJ L 5=n6 from e6.symm];rw[aQ (nums s) 1 6 n6 L hl (show ¬n6<aJ L 6 from c6),show n6-aJ L 6=n7 from e7.symm];rw[fN,hl];exact if_pos (show n7<(if 24≤L then 0 else L) by rw[if_neg (by omega)];exact h7)
 have hne:¬((L:Int)=0):=by omega
 have hbig:¬(24:Int)<(L:Int):=by omega
 have hneg:¬((n:Int)<0):=by omega
 have f0:¬(n:Int)<8*(L:Int):=by omega
 have g1:(n:Int)-8*(L:Int)=(n1:Int):=by omega
 have f1:¬(n1:Int)<8*(L:Int)-1:=by omega
 have g2:(n1:Int)-(8*(L:Int)-1)=(n2:Int):=by omega
 have f2:¬(n2:Int)<(L:Int):=by omega
 have g3:(n2:Int)-(L:Int)=(n3:Int):=by omega
 have f3:¬(n3:Int)<4*(L:Int):=by omega
 have g4:(n3:Int)-4*(L:Int)=(n4:Int):=by omega
 have f4:¬(n4:Int)<4*(L:Int):=by omega
 have g5:(n4:Int)-4*(L:Int)=(n5:Int):=by omega
 have f5:¬(n5:Int)<5*(L:Int):=by omega
 have g6:(n5:Int)-5*(L:Int)=(n6:Int):=by omega
 have f6:¬(n6:Int)<(L:Int):=by omega
 have g7:(n6:Int)-(L:Int)=(n7:Int):=by omega
 have f7:(n7:Int)<(L:Int):=by omega
 have f24:(L:Int)<24:=by omega
 have hmn:n≤1000:=by omega
 have HS:Hid (s.extract 0 (n7+1)++s.extract n7 L=strOfNums (ey (nums s) n7 7)):=by rw[←hL];exact D1 s n7 (by omega)
 have k1:(0:Int)≤(n7:Int):=by omega
 have k2:(n7:Int)≤(L:Int):=by omega
 have k3:(0:Int)≤(n7:Int)+1:=by omega
 have k4:(n7:Int)+1≤(L:Int):=by omega
 have k5:((n7:Int)+1).toNat=n7+1:=by omega
 clear e1 c0 e2 c1 e3 c2 e4 c3 e5 c4 e6 c5 e7 c6;go_in;go_wp2_with fail
 go_quiet(fail)
 go_wp2_with fail
 go_ret2;rw[HANS.out]
 refine⟨⟨rfl,rfl,rfl,Nat.le_refl _,fun _ _=>rfl⟩,?_⟩
 show Ending.returned (.tuple #[.string (s.extract 0 (n7+1)++s.extract n7 L),.bool true])=_;rw[HS.out];rfl
structure gF (w:World) (k:Nat) (y:Int) (e:Ending) (w':World):Prop where
 Ks:e=.returned (.tuple #[.int .i64 (k:Nat),.int .u64 y])
 same:w'=w
theorem L4 (x:Int)(n:Nat):((dr x n:Nat):Int)=IntKind.u64.wrap (sd x*2685821657736338717)/8589934592%(n:Int):=by
 unfold dr;have hb:0≤IntKind.u64.wrap (sd x*2685821657736338717):=by rw[IntKind.wrap_u64];omega
 generalize IntKind.u64.wrap (sd x*2685821657736338717)=P at*;have hD0:0≤P/8589934592:=by omega
 generalize P/8589934592=D at*
 have:((D.toNat%n:Nat):Int)=(D.toNat:Int)%(n:Int):=by simp
 rw[this,Int.toNat_of_nonneg hD0]
theorem rB (w:World)(x:Int)(h0:0≤x)(hx:x≤18446744073709551615)(n:Nat)(h1:1≤n)(h2:n≤1000):
  Calls Tryz.prog 73 #[.int .u64 x,.int .i64 n] w (gF w (dr x n) (sd x)):=by
 have hd:=L4 x n;have hne:¬((n:Int)=0):=by omega
 have hn0:(0:Int)≤(n:Int):=by omega
 have hm:0≤IntKind.u64.wrap (sd x*2685821657736338717)/8589934592%(n:Int)∧IntKind.u64.wrap (sd x*2685821657736338717)/8589934592%(n:Int)<(n:Int):=⟨Int.emod_nonneg _ (by omega),Int.emod_lt_of_pos _ (by omega)⟩;have hw:0≤IntKind.u64.wrap (sd x*2685821657736338717):=by rw[IntKind.wrap_u64];omega
 have HD:=hid hd;clear hd;have hN:(n:Int)≤1000:=by omega
 by_cases hz:x=0
 ·subst hz;have e:sd 0=qL 88172645463325252:=rfl;rw[e]at hm hw;unfold qL at hm hw;have e2:(88172645463325252:Int)/4096=21526524771319:=by decide
  rw[e2]at hm hw;have hm0:=hm.1;have hm1:=hm.2;clear hm e e2;go_in;go_wp2;go_ret2
  exact⟨by rw[HD.out];rfl,rfl⟩
 ·have e:sd x=qL x:=by unfold sd;rw[if_neg hz]
  rw[e]at hm hw;unfold qL at hm hw;have hm0:=hm.1;have hm1:=hm.2;clear hm;go_in;go_wp2;go_ret2
  exact⟨by rw[HD.out,e];rfl,by rfl⟩
end Go.Proofs.YtmpgjkhchfcjlaaGreatDoor
