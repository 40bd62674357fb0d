import Derived.Test.YtmpgjkhchfcjlaaGreatDoorM21
namespace Go.Proofs.YtmpgjkhchfcjlaaGreatDoor
open Go.RowKit
set_option maxHeartbeats 2000000
set_option maxRecDepth 100000
section
variable (w:World) (s o:ByteArray) (x:Int) (L:Nat) (LR:s.size=L) (hL:L≤24)
include LR
theorem D2 (k:Nat)(hk:k=0∨k=1∨k=2∨k=5)(h0:L=0)(y1:Int)
  (H0:Hid (Calls Tryz.prog 73 #[.int .u64 x,.int .i64 6] w (gF w k y1))):
  Calls Tryz.prog 74 #[.string s,.string o,.int .u64 x] w (bU w s y1):=by
 subst h0;go_in;go_wp2_with fail
 refine H0.out.mono ?_;rintro e w1 ⟨rfl,hw1⟩;obtain rfl:=hw1;rcases hk with rfl|rfl|rfl|rfl;all_goals
  go_wp2_with fail
  go_ret2
  exact⟨Below.refl _ _,rfl⟩
include hL in
theorem Ih (t:ByteArray)(a:Nat)(hL0:0<L)(y1 y2:Int)
  (H0:Hid (Calls Tryz.prog 73 #[.int .u64 x,.int .i64 6] w (gF w 0 y1)))
  (H1:Hid (Calls Tryz.prog 73 #[.int .u64 y1,.int .i64 ((8:Int)*(L:Int))] w (gF w a y2)))
  (HF:Hid (Calls Tryz.prog 70 #[.string s,.int .i64 a] w (jI w t))):
  Calls Tryz.prog 74 #[.string s,.string o,.int .u64 x] w (bU w t y2):=by
 have hne:¬((L:Int)=0):=by omega
 go_in;go_wp2_with fail
 refine H0.out.mono ?_;rintro e w1 ⟨rfl,hw1⟩;obtain rfl:=hw1;go_wp2_with fail
 refine H1.out.mono ?_;rintro e w1 ⟨rfl,hw1⟩;obtain rfl:=hw1;go_wp2_with fail
 refine HF.out.mono ?_;rintro e w2 ⟨B2,rfl⟩;go_wp2_with fail
 go_ret2
 exact⟨B2,rfl⟩
theorem Fl (t:ByteArray)(a b:Nat)(hL0:0<L)(hb:b<256)(y1 y2 y3:Int)
  (H0:Hid (Calls Tryz.prog 73 #[.int .u64 x,.int .i64 6] w (gF w 1 y1)))
  (H1:Hid (Calls Tryz.prog 73 #[.int .u64 y1,.int .i64 (L:Int)] w (gF w a y2)))
  (H2:Hid (Calls Tryz.prog 73 #[.int .u64 y2,.int .i64 256] w (gF w b y3)))
  (HF:Hid (Calls Tryz.prog 71 #[.string s,.int .i64 a,.int .u8 (b:Int)] w (jI w t))):
  Calls Tryz.prog 74 #[.string s,.string o,.int .u64 x] w (bU w t y3):=by
 have hne:¬((L:Int)=0):=by omega
 go_in;go_wp2_with fail
 refine H0.out.mono ?_;rintro e w1 ⟨rfl,hw1⟩;obtain rfl:=hw1;go_wp2_with fail
 refine H1.out.mono ?_;rintro e w1 ⟨rfl,hw1⟩;obtain rfl:=hw1;go_wp2_with fail
 refine H2.out.mono ?_;rintro e w1 ⟨rfl,hw1⟩;obtain rfl:=hw1;go_wp2_with fail
 refine HF.out.mono ?_;rintro e w2 ⟨B2,rfl⟩;go_wp2_with fail
 go_ret2
 exact⟨B2,rfl⟩
include hL in
theorem Ii (t:ByteArray)(a:Nat)(ha:a<L)(y1 y2:Int)
  (H0:Hid (Calls Tryz.prog 73 #[.int .u64 x,.int .i64 6] w (gF w 2 y1)))
  (H1:Hid (Calls Tryz.prog 73 #[.int .u64 y1,.int .i64 (L:Int)] w (gF w a y2)))
  (HT:Hid (s.extract 0 a++s.extract (a+1) L=t)):
  Calls Tryz.prog 74 #[.string s,.string o,.int .u64 x] w (bU w t y2):=by
 have hne:¬((L:Int)=0):=by omega
 have k1:(0:Int)≤(a:Int):=by omega
 have k2:(a:Int)≤(L:Int):=by omega
 have k3:(0:Int)≤(a:Int)+1:=by omega
 have k4:(a:Int)+1≤(L:Int):=by omega
 have k5:((a:Int)+1).toNat=a+1:=by omega
 go_in;go_wp2_with fail
 refine H0.out.mono ?_;rintro e w1 ⟨rfl,hw1⟩;obtain rfl:=hw1;go_wp2_with fail
 refine H1.out.mono ?_;rintro e w1 ⟨rfl,hw1⟩;obtain rfl:=hw1;go_wp2_with fail
 go_quiet(fail)
 go_wp2_with fail
 go_ret2;rw[←HT.out]
 exact⟨⟨rfl,rfl,rfl,Nat.le_refl _,fun _ _=>rfl⟩,rfl⟩
theorem Fm (h24:L=24)(y1:Int)
  (H0:Hid (Calls Tryz.prog 73 #[.int .u64 x,.int .i64 6] w (gF w 3 y1))):
  Calls Tryz.prog 74 #[.string s,.string o,.int .u64 x] w (bU w s y1):=by
 subst h24;go_in;go_wp2_with fail
 refine H0.out.mono ?_;rintro e w1 ⟨rfl,hw1⟩;obtain rfl:=hw1;go_wp2_with fail
 go_ret2
 exact⟨Below.refl _ _,rfl⟩
theorem Kf (t t0:ByteArray)(a b:Nat)(h24:L<24)(hL0:0<L)(ha:a≤L)(hb:b<256)(y1 y2 y3:Int)(ht0:strOfNums [(b:Int)]=t0)
  (H0:Hid (Calls Tryz.prog 73 #[.int .u64 x,.int .i64 6] w (gF w 3 y1)))
  (H1:Hid (Calls Tryz.prog 73 #[.int .u64 y1,.int .i64 ((L:Int)+1)] w (gF w a y2)))
  (H2:Hid (Calls Tryz.prog 73 #[.int .u64 y2,.int .i64 256] w (gF w b y3)))
  (HT:Hid (s.extract 0 a++t0++s.extract a L=t)):
  Calls Tryz.prog 74 #[.string s,.string o,.int .u64 x] w (bU w t y3):=by
 have k1:(0:Int)≤(a:Int):=by omega
 have k2:(a:Int)≤(L:Int):=by omega
 have k6:¬(24:Int)≤(L:Int):=by omega
 have hmin:min a L=a:=by omega
 have hts:t0.size=1:=by rw[←ht0];rfl
 have hcv:(convert 39 9 (.slice (some ⟨w.heap.size,0,none⟩) 1 1)).run Tryz.prog (w.alloc (.cells #[.int .u8 (b:Int)] 5)).drew=.ok (.string t0) (w.alloc (.cells #[.int .u8 (b:Int)] 5)).drew:=by
  rw[←ht0];exact run_convert_bytes_arg _ 39 5 Tryz.underlying39 Tryz.underlying5 w.heap.size 0 1 1 [(b:Int)] rfl (fun j hj=>by
   have e:(w.alloc (.cells #[.int .u8 (b:Int)] 5)).drew.cell? ⟨w.heap.size,0+j,none⟩=#[Value.int .u8 (b:Int)][0+j]?:=World.cell?_alloc_new w #[.int .u8 (b:Int)] 5 (0+j);rw[e];match j,hj with
   |0,_=>rfl
   |j+1,hj=>simp at hj) 9 Tryz.underlying9
 have hne:¬((L:Int)=0):=by omega
 go_in;go_wp2_with fail
 refine H0.out.mono ?_;rintro e w1 ⟨rfl,hw1⟩;obtain rfl:=hw1;go_wp2_with fail
 refine H1.out.mono ?_;rintro e w1 ⟨rfl,hw1⟩;obtain rfl:=hw1;go_wp2_with fail
 refine H2.out.mono ?_;rintro e w1 ⟨rfl,hw1⟩;obtain rfl:=hw1;go_wp2_with fail
 go_region
 go_wp2_with fail
 go_ret2;rw[←HT.out]
 exact⟨((Below.refl _ _).alloc (Nat.le_refl _) _).drew,rfl⟩
include hL in
theorem D3 (t t1:ByteArray)(a b O:Nat)(hOs:o.size=O)(hO:O≤24)(hL0:0<L)(ha:a≤L)(hb:b≤O)(y1 y2 y3:Int)
  (H0:Hid (Calls Tryz.prog 73 #[.int .u64 x,.int .i64 6] w (gF w 4 y1)))
  (H1:Hid (Calls Tryz.prog 73 #[.int .u64 y1,.int .i64 ((L:Int)+1)] w (gF w a y2)))
  (H2:Hid (Calls Tryz.prog 73 #[.int .u64 y2,.int .i64 ((O:Int)+1)] w (gF w b y3)))
  (ht1:s.extract 0 a++o.extract b O=t1)(N:Nat)(hN:t1.size=N)(HT:Hid ((if 24<N then t1.extract 0 24 else t1)=t)):
  Calls Tryz.prog 74 #[.string s,.string o,.int .u64 x] w (bU w t y3):=by
 have k1:(0:Int)≤(a:Int):=by omega
 have k2:(a:Int)≤(L:Int):=by omega
 have k3:(0:Int)≤(b:Int):=by omega
 have k4:(b:Int)≤(O:Int):=by omega
 have hmin:min a L=a:=by omega
 have hne:¬((L:Int)=0):=by omega
 by_cases h24:24<N
 ·have h24':(24:Int)<(N:Int):=by omega
  have hT:=HT.out;rw[if_pos h24]at hT;have HT':=hid hT;clear hT HT;go_in;go_wp2_with fail
  refine H0.out.mono ?_;rintro e w1 ⟨rfl,hw1⟩;obtain rfl:=hw1;go_wp2_with fail
  refine H1.out.mono ?_;rintro e w1 ⟨rfl,hw1⟩;obtain rfl:=hw1;go_wp2_with fail
  refine H2.out.mono ?_;rintro e w1 ⟨rfl,hw1⟩;obtain rfl:=hw1;go_wp2_with fail
  go_quiet(fail)
  go_wp2_with fail
  go_ret2;rw[←HT'.out]
  exact⟨⟨rfl,rfl,rfl,Nat.le_refl _,fun _ _=>rfl⟩,rfl⟩
 ·have h24':¬(24:Int)<(N:Int):=by omega
  have hT:=HT.out;rw[if_neg h24]at hT;have HT':=hid hT;clear hT HT;go_in;go_wp2_with fail
  refine H0.out.mono ?_;rintro e w1 ⟨rfl,hw1⟩;obtain rfl:=hw1;go_wp2_with fail
  refine H1.out.mono ?_;rintro e w1 ⟨rfl,hw1⟩;obtain rfl:=hw1;go_wp2_with fail
  refine H2.out.mono ?_;rintro e w1 ⟨rfl,hw1⟩;obtain rfl:=hw1;go_wp2_with fail
  go_quiet(fail)
  go_wp2_with fail
  go_ret2;rw[←HT'.out]
  exact⟨⟨rfl,rfl,rfl,Nat.le_refl _,fun _ _=>rfl⟩,rfl⟩
theorem Fo (t:ByteArray)(a b:Nat)(hL0:0<L)(hbq:b<s.size)(z:Int)(y1 y2 y3:Int)(hz:(nums s).getD b 0=z)
  (H0:Hid (Calls Tryz.prog 73 #[.int .u64 x,.int .i64 6] w (gF w 5 y1)))
  (H1:Hid (Calls Tryz.prog 73 #[.int .u64 y1,.int .i64 (L:Int)] w (gF w a y2)))
  (H2:Hid (Calls Tryz.prog 73 #[.int .u64 y2,.int .i64 (L:Int)] w (gF w b y3)))
  (HF:Hid (Calls Tryz.prog 71 #[.string s,.int .i64 a,.int .u8 z] w (jI w t))):
  Calls Tryz.prog 74 #[.string s,.string o,.int .u64 x] w (bU w t y3):=by
 have hne:¬((L:Int)=0):=by omega
 have hidx:=jA s b hbq;rw[hz]at hidx;clear hz;have hbI:(b:Int)<(L:Int):=by omega
 go_in;go_wp2_with fail
 refine H0.out.mono ?_;rintro e w1 ⟨rfl,hw1⟩;obtain rfl:=hw1;go_wp2_with fail
 refine H1.out.mono ?_;rintro e w1 ⟨rfl,hw1⟩;obtain rfl:=hw1;go_wp2_with fail
 refine H2.out.mono ?_;rintro e w1 ⟨rfl,hw1⟩;obtain rfl:=hw1;go_wp2_with fail
 refine HF.out.mono ?_;rintro e w2 ⟨B2,rfl⟩;go_wp2_with fail
 go_ret2
 exact⟨B2,rfl⟩
end
theorem Ij (w:World)(o:ByteArray)(x:Int)(t0:ByteArray)(b:Nat)(hb:b<256)(y1 y2 y3:Int)(ht0:strOfNums [(b:Int)]=t0)
  (H0:Hid (Calls Tryz.prog 73 #[.int .u64 x,.int .i64 6] w (gF w 3 y1)))
  (H1:Hid (Calls Tryz.prog 73 #[.int .u64 y1,.int .i64 1] w (gF w 0 y2)))
  (H2:Hid (Calls Tryz.prog 73 #[.int .u64 y2,.int .i64 256] w (gF w b y3))):
  Calls Tryz.prog 74 #[.string ⟨#[]⟩,.string o,.int .u64 x] w (bU w t0 y3):=by
 have hts:t0.size=1:=by rw[←ht0];rfl
 have hcv:(convert 39 9 (.slice (some ⟨w.heap.size,0,none⟩) 1 1)).run Tryz.prog (w.alloc (.cells #[.int .u8 (b:Int)] 5)).drew=.ok (.string t0) (w.alloc (.cells #[.int .u8 (b:Int)] 5)).drew:=by
  rw[←ht0];exact run_convert_bytes_arg _ 39 5 Tryz.underlying39 Tryz.underlying5 w.heap.size 0 1 1 [(b:Int)] rfl (fun j hj=>by
   have e:(w.alloc (.cells #[.int .u8 (b:Int)] 5)).drew.cell? ⟨w.heap.size,0+j,none⟩=#[Value.int .u8 (b:Int)][0+j]?:=World.cell?_alloc_new w #[.int .u8 (b:Int)] 5 (0+j);rw[e];match j,hj with
   |0,_=>rfl
   |j+1,hj=>simp at hj) 9 Tryz.underlying9
 go_in;go_wp2_with fail
 refine H0.out.mono ?_;rintro e w1 ⟨rfl,hw1⟩;obtain rfl:=hw1;go_wp2_with fail
 refine H1.out.mono ?_;rintro e w1 ⟨rfl,hw1⟩;obtain rfl:=hw1;go_wp2_with fail
 refine H2.out.mono ?_;rintro e w1 ⟨rfl,hw1⟩;obtain rfl:=hw1;go_wp2_with fail
 go_region
 go_wp2_with fail
 go_ret2
 refine⟨((Below.refl _ _).alloc (Nat.le_refl _) _).drew,?_⟩
 rfl
theorem zF (w:World)(o:ByteArray)(x:Int)(t1:ByteArray)(b O:Nat)(hOs:o.size=O)(hO:O≤24)(hb:b≤O)(y1 y2 y3:Int)
  (H0:Hid (Calls Tryz.prog 73 #[.int .u64 x,.int .i64 6] w (gF w 4 y1)))
  (H1:Hid (Calls Tryz.prog 73 #[.int .u64 y1,.int .i64 1] w (gF w 0 y2)))
  (H2:Hid (Calls Tryz.prog 73 #[.int .u64 y2,.int .i64 ((O:Int)+1)] w (gF w b y3)))
  (ht1:o.extract b O=t1)(N:Nat)(hN:t1.size=N)(hN24:N≤24):
  Calls Tryz.prog 74 #[.string ⟨#[]⟩,.string o,.int .u64 x] w (bU w t1 y3):=by
 have k3:(0:Int)≤(b:Int):=by omega
 have k4:(b:Int)≤(O:Int):=by omega
 have h24':¬(24:Int)<(N:Int):=by omega
 go_in;go_wp2_with fail
 refine H0.out.mono ?_;rintro e w1 ⟨rfl,hw1⟩;obtain rfl:=hw1;go_wp2_with fail
 refine H1.out.mono ?_;rintro e w1 ⟨rfl,hw1⟩;obtain rfl:=hw1;go_wp2_with fail
 refine H2.out.mono ?_;rintro e w1 ⟨rfl,hw1⟩;obtain rfl:=hw1;go_wp2_with fail
 go_quiet(fail)
 go_wp2_with fail
 go_ret2
 refine⟨⟨rfl,rfl,rfl,Nat.le_refl _,fun _ _=>rfl⟩,?_⟩
 rfl
theorem Kg (s:ByteArray)(i:Nat)(b:Int)(h0:0≤b)(h1:b≤255):s.extract 0 i++strOfNums [b]++s.extract i s.size=strOfNums ((nums s).take i++b::(nums s).drop i):=by
 apply eX;rw[bN,bN,aU,aU,bz (fE h0 h1),bz (ug (bt s) i h0 h1)];rw[List.drop_zero,Nat.sub_zero,List.take_of_length_le (i:=s.size-i) (by simp[af])]
 simp
theorem zG (s o:ByteArray)(a b:Nat):nums (s.extract 0 a++o.extract b o.size)=(nums s).take a++(nums o).drop b:=by
 rw[bN,aU,aU,List.drop_zero,Nat.sub_zero,List.take_of_length_le (i:=o.size-b) (by simp[af])]
theorem D4 (s o:ByteArray)(a b:Nat):(if 24<(s.extract 0 a++o.extract b o.size).size then(s.extract 0 a++o.extract b o.size).extract 0 24 else s.extract 0 a++o.extract b o.size)=strOfNums (((nums s).take a++(nums o).drop b).take 24):=by
 have hn:=zG s o a b;generalize s.extract 0 a++o.extract b o.size=t at hn⊢;have hb:iL ((nums s).take a++(nums o).drop b):=((bt s).take a).app ((bt o).drop b);split
 ·apply eX;rw[aU,hn,bz (hb.take 24),List.drop_zero,Nat.sub_zero]
 ·rw[←hn,List.take_of_length_le (by rw[af];omega),jT]
theorem xZ (w:World)(x:Int)(h0:0≤x)(hx:x≤18446744073709551615)(n:Nat)(h1:1≤n)(h2:n≤1000):Calls Tryz.prog 73 #[.int .u64 x,.int .i64 n] w (gF w (dr x n) (sd x)):=rB w x h0 hx n h1 h2
theorem xA {s:ByteArray}(h:s.size=0):s=⟨#[]⟩:=by
 apply eX
 have:(nums s).length=0:=by rw[af];exact h
 rw[List.length_eq_zero_iff.1 this];rfl
theorem Fp (x:Int):dr x 1=0:=by
 have:=dP x 1 (by omega)
 omega
theorem uO (w:World)(s o:ByteArray)(x:Int)(hs:s.size≤24)(ho:o.size≤24)(h0:0≤x)(hx:x≤18446744073709551615):
  Calls Tryz.prog 74 #[.string s,.string o,.int .u64 x] w (bU w (strOfNums (eY (nums s) (nums o) x).1) (eY (nums s) (nums o) x).2):=by
 have H0:=hid (xZ w x h0 hx 6 (by omega) (by omega));have hw:=dP x 6 (by omega);have b1:=iA x;have b2:=iA (sd x);unfold eY;dsimp only;rw[af,af];generalize dr x 6=k at H0 hw⊢;by_cases h:s.size=0∧k≠3∧k≠4
 ·rw[if_pos h,jT];exact D2 w s o x s.size rfl k (by omega) h.1 (sd x) H0
 rw[if_neg h];match k,hw with
 |0,_=>
  rw[if_pos rfl];exact Ih w s o x s.size rfl hs _ _ (by omega) _ _ H0 (xZ w (sd x) b1.1 b1.2 (8*s.size) (by omega) (by omega)) (lX w s _ (dP _ _ (by omega)) (by omega))
 |1,_=>
  rw[if_neg (by decide),if_pos rfl];have hb:=dP (sd (sd x)) 256 (by omega);exact Fl w s o x s.size rfl _ _ _ (by omega) hb _ _ _ H0 (xZ w (sd x) b1.1 b1.2 s.size (by omega) (by omega)) (xZ w (sd (sd x)) b2.1 b2.2 256 (by omega) (by omega)) (jd w s _ _ (dP _ _ (by omega)) (by omega) (by omega) (by omega))
 |2,_=>
  rw[if_neg (by decide),if_neg (by decide),if_pos rfl];exact Ii w s o x s.size rfl hs _ _ (dP _ _ (by omega)) _ _ H0 (xZ w (sd x) b1.1 b1.2 s.size (by omega) (by omega)) (AU s _)
 |3,_=>
  rw[if_neg (by decide),if_neg (by decide),if_neg (by decide),if_pos rfl];by_cases h24:24≤s.size
  ·rw[if_pos h24,jT];exact Fm w s o x s.size rfl (by omega) _ H0
  ·rw[if_neg h24];have hb:=dP (sd (sd x)) 256 (by omega);by_cases hz:s.size=0
   ·have e:=xA hz;have ht:strOfNums ((nums s).take (dr (sd x) (s.size+1))++(dr (sd (sd x)) 256:Int)::(nums s).drop (dr (sd x) (s.size+1)))=strOfNums [(dr (sd (sd x)) 256:Int)]:=by
     have:nums s=[]:=List.length_eq_zero_iff.1 (by rw[af];exact hz)
     rw[this]
     simp
    dsimp only;rw[ht,e];have H1:=xZ w (sd x) b1.1 b1.2 1 (by omega) (by omega);rw[Fp]at H1;exact Ij w o x _ _ hb _ _ _ rfl H0 H1 (xZ w (sd (sd x)) b2.1 b2.2 256 (by omega) (by omega))
   ·have ha:=dP (sd x) (s.size+1) (by omega);exact Kf w s o x s.size rfl _ _ _ _ (by omega) (by omega) (by omega) hb _ _ _ rfl H0 (xZ w (sd x) b1.1 b1.2 (s.size+1) (by omega) (by omega)) (xZ w (sd (sd x)) b2.1 b2.2 256 (by omega) (by omega)) (Kg s _ _ (by omega) (by omega))
 |4,_=>
  rw[if_neg (by decide),if_neg (by decide),if_neg (by decide),if_neg (by decide),if_pos rfl];have hb:=dP (sd (sd x)) (o.size+1) (by omega);by_cases hz:s.size=0
  ·have e:=xA hz;have hl:(o.extract (dr (sd (sd x)) (o.size+1)) o.size).size≤24:=by
    rw[←af,aU,List.length_take];omega
   have ht:strOfNums (((nums s).take (dr (sd x) (s.size+1))++(nums o).drop (dr (sd (sd x)) (o.size+1))).take 24)=o.extract (dr (sd (sd x)) (o.size+1)) o.size:=by
    have hn:nums s=[]:=List.length_eq_zero_iff.1 (by rw[af];exact hz);rw[hn,List.take_nil,List.nil_append,List.take_of_length_le (by simp[af];omega)];apply eX;rw[bz ((bt o).drop _),aU,List.take_of_length_le (by simp[af])]
   dsimp only;rw[ht,e];have H1:=xZ w (sd x) b1.1 b1.2 1 (by omega) (by omega);rw[Fp]at H1;exact zF w o x _ _ o.size rfl ho (by omega) _ _ _ H0 H1 (xZ w (sd (sd x)) b2.1 b2.2 (o.size+1) (by omega) (by omega)) rfl _ rfl hl
  ·have ha:=dP (sd x) (s.size+1) (by omega);exact D3 w s o x s.size rfl hs _ _ _ _ o.size rfl ho (by omega) (by omega) (by omega) _ _ _ H0 (xZ w (sd x) b1.1 b1.2 (s.size+1) (by omega) (by omega)) (xZ w (sd (sd x)) b2.1 b2.2 (o.size+1) (by omega) (by omega)) rfl _ rfl (D4 s o _ _)
 |5,_=>
  rw[if_neg (by decide),if_neg (by decide),if_neg (by decide),if_neg (by decide),if_neg (by decide)];have hb:=dP (sd (sd x)) s.size (by omega);exact Fo w s o x s.size rfl _ _ _ (by omega) hb _ _ _ _ rfl H0 (xZ w (sd x) b1.1 b1.2 s.size (by omega) (by omega)) (xZ w (sd (sd x)) b2.1 b2.2 s.size (by omega) (by omega)) (jd w s _ _ (dP _ _ (by omega)) (by omega) ((bt s).at _).1 ((bt s).at _).2)
 |k+6,hk=>omega
theorem zH (w:World)(s o:ByteArray)(hs:s.size≤24)(ho:o.size≤24)(x:Int)(n:Nat)(hn:n≤3)(x1:Int)(F:Nat→ByteArray)(G:Nat→Int)(hF0:Hid (F 0=s∧G 0=x1))
  (H0:Hid (Calls Tryz.prog 73 #[.int .u64 x,.int .i64 4] w (gF w n x1)))
  (H1:Hid (∀i w1,Calls Tryz.prog 74 #[.string (F i),.string o,.int .u64 (G i)] w1 (bU w1 (F (i+1)) (G (i+1))))):
  Calls Tryz.prog 35 #[.string s,.string o,.int .u64 x] w (bU w (F (1+n)) (G (1+n))):=by
 generalize hL:s.size=L at hs;generalize hO:o.size=O at ho;have h1:¬(24:Int)<(L:Int):=by omega
 have h2:¬(24:Int)<(O:Int):=by omega
 go_in;go_wp2_with fail
 refine H0.out.mono ?_;rintro e w1 ⟨rfl,hw1⟩;obtain rfl:=hw1;go_wp2_with fail
 go_loopw [0,2,9] (fun sv xv i wr=>∃k:Nat,k≤1+n∧sv=.string (F k)∧xv=.int .u64 (G k)∧i=.int .i64 k∧Below w1.heap.size w1 wr) (fun _ _ i _=>1+n-(intOf i).toNat)
 case atStart=>exact ⟨0,by omega,by rw[hF0.out.1],by rw[hF0.out.2],rfl,Below.refl _ _⟩
 case round=>
  obtain⟨k,hk,rfl,rfl,rfl,B⟩:=hrel
  have HB:=hid B;clear B;by_cases hlt:k≤n
  ·have hi1:(k:Int)≤(n:Int):=(by omega);have HC:=hid (H1.out k wr);go_wp2_with fail
   refine HC.out.mono ?_;rintro e w3 ⟨B3,rfl⟩;have HB3:=hid (HB.out.trans (B3.mono HB.out.size));clear B3;go_wp2_with fail
   go_roundw
   case rel=>exact ⟨k+1,by omega,rfl,rfl,by go_num,HB3.out⟩
   case measure=>simp [intOf];omega
  ·have hi1:¬(k:Int)≤(n:Int):=(by omega);obtain rfl:k=1+n:=by omega
   go_wp2_with fail
   go_ret2
   exact⟨HB.out,rfl⟩
theorem D5 (s o:ByteArray)(hs:s.size≤24)(ho:o.size≤24)(x:Int):∃(n:Nat) (x1:Int) (F:Nat→ByteArray) (G:Nat→Int),n=dr x 4∧x1=sd x∧n≤3∧F 0=s∧G 0=x1∧
  (∀i,(F i).size≤24∧0≤G i∧G i≤18446744073709551615∧F (i+1)=strOfNums (eY (nums (F i)) (nums o) (G i)).1∧G (i+1)=(eY (nums (F i)) (nums o) (G i)).2)∧F (1+n)=strOfNums (j8 (nums s) (nums o) x).1∧G (1+n)=(j8 (nums s) (nums o) x).2:=by
 have hbyt:∀i,iL (cN (nums s) (nums o) (sd x) i).1:=sN (bt s) (bt o) _;have hlen:∀i,(cN (nums s) (nums o) (sd x) i).1.length≤24:=fun i=>qW (by rw[af];exact hs) (by rw[af];exact ho) _ _
 have hsd:∀i,0≤(cN (nums s) (nums o) (sd x) i).2∧(cN (nums s) (nums o) (sd x) i).2≤18446744073709551615:=by
  intro i;induction i with
  |zero=>exact iA x
  |succ i ih=>
   show 0≤(eY _ _ _).2∧(eY _ _ _).2≤_;unfold eY;dsimp only;have r1:=iA (cN (nums s) (nums o) (sd x) i).2;have r2:=iA (sd (cN (nums s) (nums o) (sd x) i).2);have r3:=iA (sd (sd (cN (nums s) (nums o) (sd x) i).2));split
   ·exact r1
   split
   ·exact r2
   split
   ·exact r3
   split
   ·exact r2
   split
   ·split
    ·exact r1
    ·exact r3
   split
   ·exact r3
   ·exact r3
 have hstep:∀i,cN (nums s) (nums o) (sd x) (i+1)=eY (cN (nums s) (nums o) (sd x) i).1 (nums o) (cN (nums s) (nums o) (sd x) i).2:=fun i=>rfl
 have hw:j8 (nums s) (nums o) x=cN (nums s) (nums o) (sd x) (1+dr x 4):=rfl
 refine⟨dr x 4,sd x,fun i=>strOfNums (cN (nums s) (nums o) (sd x) i).1,fun i=>(cN (nums s) (nums o) (sd x) i).2,rfl,rfl,?_,jT s,rfl,fun i=>⟨?_,(hsd i).1,(hsd i).2,?_,?_⟩,?_,?_⟩
 ·have:=dP x 4 (by omega)
  omega
 ·rw[strOfNums_size];exact hlen i
 ·dsimp only;rw[bz (hbyt i),hstep]
 ·dsimp only;rw[bz (hbyt i),hstep]
 ·rw[hw]
 ·rw[hw]
theorem tE (w:World)(s o:ByteArray)(hs:s.size≤24)(ho:o.size≤24)(x:Int)(h0:0≤x)(hx:x≤18446744073709551615):
  Calls Tryz.prog 35 #[.string s,.string o,.int .u64 x] w (bU w (strOfNums (j8 (nums s) (nums o) x).1) (j8 (nums s) (nums o) x).2):=by
 obtain⟨n,x1,F,G,hn,hx1,hn3,hF0,hG0,hFs,hFn,hGn⟩:=D5 s o hs ho x
 rw[←hFn,←hGn];have HD:Calls Tryz.prog 73 #[.int .u64 x,.int .i64 4] w (gF w n x1):=by
  rw[hn,hx1];exact xZ w x h0 hx 4 (by omega) (by omega)
 refine zH w s o hs ho x n hn3 x1 F G ⟨hF0,hG0⟩ HD (fun i w1=> ?_)
 obtain⟨f1,f2,f3,f4,f5⟩:=hFs i
 rw[f4,f5];exact uO w1 _ o _ f1 ho f2 f3
theorem zI (w:World)(s o:ByteArray)(hsz:s.size≤9223372036854775807)(hoz:o.size≤9223372036854775807)(hl:24<s.size∨24<o.size)(x:Int):
  Calls Tryz.prog 35 #[.string s,.string o,.int .u64 x] w (bU w ⟨#[]⟩ x):=by
 generalize hL:s.size=L at hsz hl;generalize hO:o.size=O at hoz hl;by_cases h1:24<L
 ·have h1':(24:Int)<(L:Int):=by omega
  go_in;go_wp2_with fail
  go_ret2
  exact⟨Below.refl _ _,rfl⟩
 ·have h1':¬(24:Int)<(L:Int):=by omega
  have h2':(24:Int)<(O:Int):=by omega
  go_in;go_wp2_with fail
  go_ret2
  exact⟨Below.refl _ _,rfl⟩
theorem rC (w:World)(s:ByteArray)(L:Nat)(hL:s.size=L)(hLb:L≤9223372036854775807)(n:Int)(h1: -9223372036854775808≤n)(h2:n≤9223372036854775807)(h:24<L∨n<0∨L=0):
  Calls Tryz.prog 33 #[.string s,.int .i64 n] w (fq w none):=by
 by_cases ha:(24:Int)<(L:Int)
 ·go_in;go_wp2_with fail
  go_ret2
  exact⟨Below.refl _ _,rfl⟩
 ·by_cases hb:n<0
  ·go_in;go_wp2_with fail
   go_ret2
   exact⟨Below.refl _ _,rfl⟩
  ·obtain rfl:L=0:=by omega
   go_in;go_wp2_with fail
   go_ret2
   exact⟨Below.refl _ _,rfl⟩
theorem xB (w:World)(s:ByteArray)(L n n1 n2 n3 n4 n5 n6 n7:Nat)(hL:s.size=L)(hs:L≤24)(hL0:0<L)(hn:n≤9223372036854775807)
  (e1:n1=n-(8*L))(c0:¬n<8*L)(e2:n2=n1-(8*L-1))(c1:¬n1<8*L-1)(e3:n3=n2-(L))(c2:¬n2<L)(e4:n4=n3-(4*L))(c3:¬n3<4*L)(e5:n5=n4-(4*L))(c4:¬n4<4*L)(e6:n6=n5-(5*L))(c5:¬n5<5*L)(e7:n7=n6-(L))(c6:¬n6<L)(c7:¬(n7<L∧L<24)):
  Calls Tryz.prog 33 #[.string s,.int .i64 n] w (fq w (cL (nums s) n)):=by
 have HANS:Hid (cL (nums s) n=none):=by
  show _=_;have hl:(nums s).length=L:=by rw[af,hL]
  rw[gC];rw[aQ (nums s) 7 0 n L hl (show ¬n<aJ L 0 from c0),show n-aJ L 0=n1 from e1.symm];rw[aQ (nums s) 6 1 n1 L hl (show ¬n1<aJ L 1 from c1),show n1-aJ L 1=n2 from e2.symm];rw[aQ (nums s) 5 2 n2 L hl (show ¬n2<aJ L 2 from c2),show n2-aJ L 2=n3 from e3.symm];rw[aQ (nums s) 4 3 n3 L hl (show ¬n3<aJ L 3 from c3),show n3-aJ L 3=n4 from e4.symm];rw[aQ (nums s) 3 4 n4 L hl (show ¬n4<aJ L 4 from c4),show n4-aJ L 4=n5 from e5.symm];rw[aQ (nums s) 2 5 n5 L hl (show ¬n5<aJ L 5 from c5),show n5-aJ L 5=n6 from e6.symm];rw[aQ (nums s) 1 6 n6 L hl (show ¬n6<aJ L 6 from c6),show n6-aJ L 6=n7 from e7.symm];rw[aQ (nums s) 0 7 n7 L hl (show ¬n7<(if 24≤L then 0 else L) by
   by_cases h24:24≤L
   ·rw[if_pos h24];omega
   ·rw[if_neg h24];omega)]
  rfl
 have hne:¬((L:Int)=0):=by omega
 have hbig:¬(24:Int)<(L:Int):=by omega
 have hneg:¬((n:Int)<0):=by omega
 have f0:¬(n:Int)<8*(L:Int):=by omega
 have g1:(n:Int)-8*(L:Int)=(n1:Int):=by omega
 have f1:¬(n1:Int)<8*(L:Int)-1:=by omega
 have g2:(n1:Int)-(8*(L:Int)-1)=(n2:Int):=by omega
 have f2:¬(n2:Int)<(L:Int):=by omega
 have g3:(n2:Int)-(L:Int)=(n3:Int):=by omega
 have f3:¬(n3:Int)<4*(L:Int):=by omega
 have g4:(n3:Int)-4*(L:Int)=(n4:Int):=by omega
 have f4:¬(n4:Int)<4*(L:Int):=by omega
 have g5:(n4:Int)-4*(L:Int)=(n5:Int):=by omega
 have f5:¬(n5:Int)<5*(L:Int):=by omega
 have g6:(n5:Int)-5*(L:Int)=(n6:Int):=by omega
 have f6:¬(n6:Int)<(L:Int):=by omega
 have g7:(n6:Int)-(L:Int)=(n7:Int):=by omega
 have m1:(n1:Int)≤9223372036854775807:=by omega
 have m2:(n2:Int)≤9223372036854775807:=by omega
 have m3:(n3:Int)≤9223372036854775807:=by omega
 have m4:(n4:Int)≤9223372036854775807:=by omega
 have m5:(n5:Int)≤9223372036854775807:=by omega
 have m6:(n6:Int)≤9223372036854775807:=by omega
 have m7:(n7:Int)≤9223372036854775807:=by omega
 by_cases h7:n7<L
 ·have f7:(n7:Int)<(L:Int):=by omega
  have f24:¬(L:Int)<24:=by omega
  clear e1 e2 e3 e4 e5 e6 e7 c0 c1 c2 c3 c4 c5 c6 c7;go_in;go_wp2_with fail
  go_ret2;rw[HANS.out]
  exact⟨Below.refl _ _,rfl⟩
 ·have f7:¬(n7:Int)<(L:Int):=by omega
  clear e1 e2 e3 e4 e5 e6 e7 c0 c1 c2 c3 c4 c5 c6 c7;go_in;go_wp2_with fail
  go_ret2;rw[HANS.out]
  exact⟨Below.refl _ _,rfl⟩
theorem pM (w:World)(s:ByteArray)(hsz:s.size≤9223372036854775807)(n:Int)(h1: -9223372036854775808≤n)(h2:n≤9223372036854775807):
  Calls Tryz.prog 33 #[.string s,.int .i64 n] w (fq w (z7 s n)):=by
 unfold z7;by_cases hl:24<s.size∨n<0
 ·rw[if_pos hl];exact rC w s s.size rfl hsz n h1 h2 (by omega)
 rw[if_neg hl]
 obtain⟨m,rfl⟩:∃m:Nat,n=m:=⟨n.toNat,by omega⟩
 rw[Int.toNat_natCast];by_cases hz:s.size=0
 ·have e:nums s=[]:=List.length_eq_zero_iff.1 (by rw[af];exact hz);rw[e,Fk];exact rC w s s.size rfl hsz m h1 h2 (by omega)
 have hs:s.size≤24:=by omega
 by_cases c0:m<8*s.size
 ·exact L5 w s s.size m rfl hs c0
 by_cases c1:m-8*s.size<8*s.size-1
 ·exact L6 w s s.size m _ rfl hs rfl c0 c1
 by_cases c2:m-8*s.size-(8*s.size-1)<s.size
 ·exact L8 w s s.size m _ _ rfl hs rfl c0 rfl c1 c2
 by_cases c3:m-8*s.size-(8*s.size-1)-s.size<4*s.size
 ·exact L9 w s s.size m _ _ _ rfl hs rfl c0 rfl c1 rfl c2 c3
 by_cases c4:m-8*s.size-(8*s.size-1)-s.size-4*s.size<4*s.size
 ·exact La w s s.size m _ _ _ _ rfl hs rfl c0 rfl c1 rfl c2 rfl c3 c4
 by_cases c5:m-8*s.size-(8*s.size-1)-s.size-4*s.size-4*s.size<5*s.size
 ·exact Ld w s s.size m _ _ _ _ _ rfl hs rfl c0 rfl c1 rfl c2 rfl c3 rfl c4 c5
 by_cases c6:m-8*s.size-(8*s.size-1)-s.size-4*s.size-4*s.size-5*s.size<s.size
 ·exact Le w s s.size m _ _ _ _ _ _ rfl hs rfl c0 rfl c1 rfl c2 rfl c3 rfl c4 rfl c5 c6
 by_cases c7:m-8*s.size-(8*s.size-1)-s.size-4*s.size-4*s.size-5*s.size-s.size<s.size∧s.size<24
 ·exact Lf w s s.size m _ _ _ _ _ _ _ rfl hs rfl c0 rfl c1 rfl c2 rfl c3 rfl c4 rfl c5 rfl c6 c7.1 c7.2
 exact xB w s s.size m _ _ _ _ _ _ _ rfl hs (by omega) (by omega) rfl c0 rfl c1 rfl c2 rfl c3 rfl c4 rfl c5 rfl c6 c7
end Go.Proofs.YtmpgjkhchfcjlaaGreatDoor
