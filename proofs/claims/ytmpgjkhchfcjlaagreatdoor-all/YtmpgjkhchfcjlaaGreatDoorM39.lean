import Derived.Test.YtmpgjkhchfcjlaaGreatDoorM24
import Derived.Test.YtmpgjkhchfcjlaaGreatDoorM36
namespace Go.Proofs.YtmpgjkhchfcjlaaGreatDoor
open Go.RowKit
set_option maxRecDepth 100000
set_option maxHeartbeats 2000000
def pN (s line rest:ByteArray)(whole:Bool):Prop:=(aN (nums s)=if whole then nums line::aN (nums rest)else[])∧line.size≤s.size∧(whole=true→rest.size<s.size)
theorem zK (s:ByteArray)(i:Nat)(h:Lib.indexByte s.data.toList 10=i):pN s (s.extract 0 i) (s.extract (i+1) s.size) true:=by
 obtain⟨h1,h2⟩:=wO s i h
 refine⟨by rw[if_pos rfl];exact h2,?_,fun _=> ?_⟩
 ·rw[Lib.size_eq,Lib.extract_data,List.length_take,List.length_drop,←Lib.size_eq];omega
 ·rw[Lib.size_eq,Lib.extract_data,List.length_take,List.length_drop,←Lib.size_eq];omega
theorem zL (s:ByteArray)(h:Lib.indexByte s.data.toList 10= -1):pN s s ⟨#[]⟩ false:=⟨by rw[if_neg (by decide)];exact Ey s h,Nat.le_refl _,fun c=>by cases c⟩
theorem uP (s:ByteArray)(hs:s.size≤9223372036854775806)(w:World):Calls Tryz.prog 171 #[.string s,.string ⟨#[10]⟩] w fun e w'=>(∃line rest whole,e=.returned (.tuple #[.string line,.string rest,.bool whole])∧pN s line rest whole)∧Below w.heap.size w w':=by
 have H1:=hid (Tryz.stringslite_Index_one s 10 w);have hge:=Lib.indexByte_ge s.data.toList 10;have H2:∀i:Nat,Lib.indexByte s.data.toList 10=i→i<s.size∧pN s (s.extract 0 i) (s.extract (i+1) s.size) true:=fun i h=>⟨(wO s i h).1,zK s i h⟩
 have H3:=zL s;generalize Lib.indexByte s.data.toList 10=x at*;by_cases hx:x= -1
 ·subst hx;have HC:=hid (H3 rfl);clear H2 H3 hge;go_in;go_wp2_with fail
  refine H1.out.mono ?_;rintro e w1 ⟨rfl,hw⟩;obtain rfl:=hw.symm;go_wp2_with fail
  go_ret3
  exact⟨⟨_,_,_,rfl,HC.out⟩,Below.refl _ _⟩
 ·obtain⟨i,rfl⟩:∃i:Nat,x=i:=⟨x.toNat,by omega⟩
  obtain⟨hi,hc⟩:=H2 i rfl
  have HC:=hid hc;clear hc;clear H2 H3 hge hx;have hi1:¬(i:Int)<0:=by omega
  have hi2:(i:Int)≤(s.size:Int):=by omega
  have hi3:(i:Int)+1≤(s.size:Int):=by omega
  have hi4:(0:Int)≤(i:Int):=by omega
  go_in;go_wp2_with fail
  refine H1.out.mono ?_;rintro e w1 ⟨rfl,hw⟩;obtain rfl:=hw.symm;go_wp2_with fail
  go_region
  all_goals
   go_wp2_with fail
   go_ret3
   exact⟨⟨_,_,_,rfl,HC.out⟩,(Below.refl _ _).drew⟩
theorem zM (s:ByteArray)(hs:s.size≤9223372036854775806)(w:World):Calls Tryz.prog 125 #[.string s,.string ⟨#[10]⟩] w fun e w'=>(∃line rest whole,e=.returned (.tuple #[.string line,.string rest,.bool whole])∧pN s line rest whole)∧Below w.heap.size w w':=by
 have H1:=hid (uP s hs w);go_in;go_wp2_with fail
 refine H1.out.mono ?_;rintro e w1 ⟨⟨line,rest,whole,rfl,hc⟩,B1⟩;have HC:Hid (pN s line rest whole∧Below w.heap.size w w1):=⟨hc,B1⟩;clear hc B1 H1;go_wp2_with fail
 go_ret3
 exact⟨⟨_,_,_,rfl,HC.out.1⟩,HC.out.2⟩
def fL (s:ByteArray):Option (List Int):=if s.size≤48∧s.size%2=0 then bA (nums s)else none
theorem zN (s:ByteArray)(hs:s.size≤9223372036854775806)(w:World):Calls Tryz.prog 172 #[.string s] w fun e w'=>e=.returned (.tuple #[.string (strOfNums ((fL s).getD [])),.bool (fL s).isSome])∧Below w.heap.size w w':=by
 obtain⟨i,hi,hz0,hz1,hz2⟩:=bB Tryz.kf
 by_cases h48:48<s.size
 ·have e:fL s=none:=by unfold fL;rw[if_neg (by omega)]
  rw[e];have hi1:(48:Int)<(s.size:Int):=by omega
  go_in;go_wp2;go_ret2
  exact⟨rfl,Below.refl _ _⟩
 ·have hi1:¬(48:Int)<(s.size:Int):=by omega
  by_cases h2:s.size%2=0
  ·have e:fL s=bA (nums s):=by unfold fL;rw[if_pos (by omega)]
   rw[e];have hi2:(s.size:Int)%2=0:=(by omega);have HS:Hid (∀q,q<s.size→(∀W:World,(Instr.index 9 (.string s) (.int .i64 (q:Int))).run Tryz.prog W=.ok (.int .u8 ((nums s).getD q 0)) W)∧0≤(nums s).getD q 0∧(nums s).getD q 0≤255):=fun q hq=>⟨nV s q hq,by rw[List.getD_eq_getElem?_getD,List.getElem?_eq_getElem (by rw[af];exact hq)];exact bt s _ (List.getElem_mem _)⟩
   have HN0:=hid (af s);have HSZ:Hid (s.size≤48∧s.size%2=0):=⟨by omega,h2⟩;have HIX:Hid (∀(W:World) (c:Int),0≤c→c≤255→Calls Tryz.prog 194 #[.string ⟨#[48,49,50,51,52,53,54,55,56,57,97,98,99,100,101,102]⟩,.int .u8 c] W fun e w'=>e=.returned (.int .i64 (eH c))∧w'=W):=fun W c c0 c1=>by
    have:=Tryz.strings_IndexByte ⟨#[48,49,50,51,52,53,54,55,56,57,97,98,99,100,101,102]⟩ c W
    obtain⟨k,rfl⟩:∃k:Nat,c=k:=⟨c.toNat,by omega⟩
    have hk:k<256:=(by omega);have e2:=Ez ⟨k,hk⟩;have e3:Lib.indexByte (⟨#[48,49,50,51,52,53,54,55,56,57,97,98,99,100,101,102]⟩:ByteArray).data.toList ((k:Int).toNat.toUInt8)=eH (k:Int):=e2;rw[e3]at this;exact this
   obtain⟨ll,hll⟩:∃ll,nums s=ll:=⟨_,rfl⟩
   rw[hll]at HS HN0⊢
   obtain⟨D,hD⟩:∃D,bA ll=D:=⟨_,rfl⟩
   rw[hD];have HDD:=hid hD;have h48':s.size≤48:=(by omega);clear hD;clear hll h48 h2 e;generalize hN:s.size=N at*;go_in;go_wp2_with fail
   go_loopw [4,5,6,7] (fun v k _ _ wr=>∃(n:Nat) (r:List Int),2*n≤N∧k=.int .i64 ((2*n:Nat):Int)∧pZ ll n=some r∧wr.ownsRow w.heap.size 5 1 v n (r.map (Value.int .u8))∧Below w.heap.size w wr) (fun _ k _ _ _=>N-(intOf k).toNat)
   case atStart=>exact ⟨0,[],by omega,rfl,rfl,World.ownsRow_nil _ _ _ _,Below.refl _ _⟩
   case round=>
    obtain⟨n,r,hn,rfl,hdec,hrow,BB⟩:=hrel
    obtain⟨la,lc,rfl⟩:=eC hrow
    have HB:=hid BB;have HR:=hid hrow;have HD:=hid hdec;have hsz:=BB.size;clear BB hrow hdec;by_cases hlt:2*n<N
    ·have hj1:((2*n:Nat):Int)<(N:Int):=(by omega);have hn1:2*n+1<N:=by have:=HSZ.out;omega
     obtain⟨hx,hx0,hx1⟩:=HS.out (2*n) (by omega)
     obtain⟨hy,hy0,hy1⟩:=HS.out (2*n+1) hn1
     have H1:=hid (HIX.out wr (ll.getD (2*n) 0) hx0 hx1);have H2:Hid (Calls Tryz.prog 194 #[.string ⟨#[48,49,50,51,52,53,54,55,56,57,97,98,99,100,101,102]⟩,.int .u8 (ll.getD (2*n+1) 0)] wr fun e w'=>e=.returned (.int .i64 (eH (ll.getD (2*n+1) 0)))∧w'=wr):=HIX.out wr (ll.getD (2*n+1) 0) hy0 hy1;have HDN:Hid _:=wP ll n (by have:=HN0.out;omega);have HLT:=hid hn1;generalize ll.getD (2*n) 0=x at*;generalize ll.getD (2*n+1) 0=y at*;have hxx:∀W:World,(Instr.index 9 (.string s) (.int .i64 ((2*n:Nat):Int))).run Tryz.prog W=.ok (.int .u8 x) W:=hx;have hyy:∀W:World,(Instr.index 9 (.string s) (.int .i64 (((2*n:Nat):Int)+1))).run Tryz.prog W=.ok (.int .u8 y) W:=hy;generalize hq:((2*n:Nat):Int)=q at*;have HQ:Hid (((2*n:Nat):Int)=q):=hq;have hq0:0≤q:=(by omega);have hq1:q≤48:=(by omega);clear hx hy hq;go_wp2_with fail
     refine H1.out.mono ?_;rintro e w1 ⟨rfl,hw⟩;obtain rfl:=hw.symm;go_wp2_with fail
     refine H2.out.mono ?_;rintro e w1 ⟨rfl,hw⟩;obtain rfl:=hw.symm;clear H1 H2 hxx hyy;by_cases hdx:eH x<0
     ·have HE:Hid (bA ll=none):=by
       have e1:=(lY x).1 hdx;have h2:=HDN.out;rw[HD.out,e1]at h2;exact uA ll (n+1) h2 (by have:=HN0.out;have:=HLT.out;omega)
      obtain rfl:D=none:=HDD.out.symm.trans HE.out;clear HDN HD HE HR HDD;go_wp2_with fail
      go_ret2
      exact⟨rfl,HB.out⟩
     ·by_cases hdy:eH y<0
      ·have HE:Hid (bA ll=none):=by
        have e1:=(lY y).1 hdy;have e2:=(jf hdx).1;have h2:=HDN.out;rw[HD.out,e1,e2]at h2;exact uA ll (n+1) h2 (by have:=HN0.out;have:=HLT.out;omega)
       obtain rfl:D=none:=HDD.out.symm.trans HE.out;clear HDN HD HE HR HDD;go_wp2_with fail
       go_ret2
       exact⟨rfl,HB.out⟩
      ·obtain⟨ux,dx0,dx1⟩:=jf hdx
       obtain⟨uy,dy0,dy1⟩:=jf hdy
       have HD2:Hid (pZ ll (n+1)=some (r++[16*eH x+eH y])):=by
        have h2:=HDN.out;rw[HD.out,ux,uy]at h2;exact h2
       clear HDN HD ux uy;generalize eH x=dx at*;generalize eH y=dy at*;have hor:bits .or .i64 (dx*16) dy=16*dx+dy:=by
        have h0:=KI ⟨dx.toNat,by omega⟩ ⟨dy.toNat,by omega⟩;have e1:((dx.toNat:Nat):Int)=dx:=(by omega);have e2:((dy.toNat:Nat):Int)=dy:=(by omega);dsimp only at h0;rw[e1,e2,IntKind.wrap_i64]at h0;rw[←h0];congr 1
        omega
       go_wp2_with(at_builtin;refine wpList_append_own _ rfl _ _ 39 rfl w.heap.size 5 i _ 1 1 Tryz.underlying39 hi hz0 hz1 hz2 rfl (by decide) (.slice la n lc) n (r.map (Value.int .u8)) rfl (HR.out.alloc (.cells #[.int .u8 (16*dx+dy)] 5)) ⟨wr.heap.size,0,none⟩ 1 1 [.int .u8 (16*dx+dy)] rfl rfl (kG wr [.int .u8 (16*dx+dy)] 5) (by intro u hu;simp at hu;rcases hu with rfl;rfl) (by unfold maxLen;have:=HLT.out;omega) (by have:=HLT.out;omega) (by simp;omega) ?_)
       intro v6 w6 ho6 hg6 hat6
       obtain⟨a6,c6,rfl⟩:=eC ho6
       have HO6:Hid (w6.ownsRow w.heap.size 5 1 (.slice a6 (n+1) c6) (n+1) ((r++[16*dx+dy]).map (Value.int .u8))∧Below w.heap.size w w6):=by
        refine⟨by rw[List.map_append];exact ho6,?_⟩
        have hlb:∀k',Value.ownBlock (.slice la n lc)=some k'→w.heap.size≤k':=fun k' hk'=>(HR.out.lt k' hk').1
        exact(HB.out.alloc hsz _).grown hg6 (by simp;omega) hlb
       clear ho6 hg6 hat6;go_wp2_with fail
       go_roundw
       case rel=>exact ⟨n+1,r++[16*dx+dy],by have:=HLT.out;omega,by rw[←HQ.out];go_num,HD2.out,HO6.out.1,HO6.out.2⟩
       case measure=>have:=HLT.out;have:=HQ.out;simp[intOf];omega
    ·have hj1:¬((2*n:Nat):Int)<(N:Int):=(by omega);have HE:Hid (bA ll=some r):=by
      have h2:=HD.out;unfold pZ at h2;rw[List.take_of_length_le (by have:=HN0.out;omega)]at h2;exact h2
     have HCV:Hid ((convert 39 9 (.slice la n lc)).run Tryz.prog wr=.ok (.string (strOfNums r)) wr):=by
      have hrl:r.length=n:=(Ay ll n r (by have:=HN0.out;omega) HD.out).1;rcases aO HR.out with⟨e,h0⟩|⟨b,cp,e,_,_,_,hc⟩
      ·rw[e];rw[run_convert_bytes_nil wr 39 5 Tryz.underlying39 Tryz.underlying5 0 0 9 Tryz.underlying9]
       have:r=[]:=List.eq_nil_of_length_eq_zero (by omega)
       rw[this];rfl
      ·rw[e];exact run_convert_bytes_arg wr 39 5 Tryz.underlying39 Tryz.underlying5 b 0 n cp r hrl (fun j hj=>by
        rw[Nat.zero_add];exact hc j _ (by rw[List.getElem?_map,List.getElem?_eq_getElem (by omega),List.getD_eq_getElem?_getD,List.getElem?_eq_getElem (by omega)];rfl)) 9 Tryz.underlying9
     have hcv:=HCV.out;obtain rfl:D=some r:=HDD.out.symm.trans HE.out;clear HD HE HR HCV HDD;generalize hq:((2*n:Nat):Int)=q at*;clear hq;go_wp2_with fail
     go_ret2
     exact⟨rfl,HB.out⟩
  ·have e:fL s=none:=by unfold fL;rw[if_neg (by omega)]
   rw[e];have hi2:¬(s.size:Int)%2=0:=(by omega);go_in;go_wp2;go_ret2
   exact⟨rfl,Below.refl _ _⟩
def AW (o:Option (Bool×ByteArray))(e:Ending):Prop:=(∃b t,o=some (b,t)∧e=.returned (.tuple #[.int .u8 (letter b),.string t,.bool true]))∨(o=none∧∃x y,e=.returned (.tuple #[.int .u8 x,.string y,.bool false]))
theorem xF (s:ByteArray)(h:2≤s.size):nums s=(nums s).getD 0 0::(nums s).getD 1 0::nums (s.extract 2 s.size):=by
 have hl:=af s;rw[aU,List.take_of_length_le (by rw[List.length_drop];omega)];match hn:nums s,hl with
 |[],hl=>simp at hl;omega
 |[a],hl=>simp at hl;omega
 |a::b::l,_=>rfl
theorem zO (s:ByteArray)(h:2≤s.size)(h0:(nums s).getD 0 0=113∨(nums s).getD 0 0=99)(h1:(nums s).getD 1 0=32):dJ (nums s)=(fL (s.extract 2 s.size)).map fun l=>(decide ((nums s).getD 0 0=113),strOfNums l):=by
 have hn:(nums (s.extract 2 s.size)).length=(s.extract 2 s.size).size:=af _;rw[xF s h];unfold dJ fL;dsimp only;rw[hn];by_cases c:(s.extract 2 s.size).size≤48∧(s.extract 2 s.size).size%2=0
 ·rw[if_pos ⟨h0,h1,c.1,c.2⟩,if_pos c];rfl
 ·rw[if_neg (fun q=>c ⟨q.2.2.1,q.2.2.2⟩),if_neg c];rfl
theorem xG (s:ByteArray)(h:s.size<2∨((nums s).getD 0 0≠113∧(nums s).getD 0 0≠99)∨(nums s).getD 1 0≠32):dJ (nums s)=none:=by
 by_cases h2:2≤s.size
 ·rw[xF s h2];unfold dJ;dsimp only;rw[if_neg]
  rintro⟨a,b,_⟩
  rcases h with h|h|h
  ·omega
  ·rcases a with a|a
   ·exact h.1 a
   ·exact h.2 a
  ·exact h b
 ·have hl:=af s;match hn:nums s,hl with
  |[],_=>rfl
  |[a],_=>rfl
  |a::b::l,hl=>simp at hl;omega
theorem Fy (s:ByteArray)(hs:s.size≤9223372036854775806)(w:World):Calls Tryz.prog 126 #[.string s] w fun e w'=>AW (dJ (nums s)) e∧Below w.heap.size w w':=by
 by_cases h2:s.size<2
 ·have HA:Hid (dJ (nums s)=none):=xG s (Or.inl h2);have hi1:(s.size:Int)<2:=by omega
  go_in;go_wp2;go_ret3
  exact⟨Or.inr ⟨HA.out,_,_,rfl⟩,Below.refl _ _⟩
 ·have hi1:¬(s.size:Int)<2:=by omega
  have hx:∀W:World,(Instr.index 9 (.string s) (.int .i64 0)).run Tryz.prog W=.ok (.int .u8 ((nums s).getD 0 0)) W:=nV s 0 (by omega);have hy:∀W:World,(Instr.index 9 (.string s) (.int .i64 1)).run Tryz.prog W=.ok (.int .u8 ((nums s).getD 1 0)) W:=nV s 1 (by omega);have HD:Hid (Calls Tryz.prog 172 #[.string (s.extract 2 s.size)] w fun e w'=>e=.returned (.tuple #[.string (strOfNums ((fL (s.extract 2 s.size)).getD [])),.bool (fL (s.extract 2 s.size)).isSome])∧Below w.heap.size w w'):=zN _ (by rw[Lib.size_eq,Lib.extract_data,List.length_take,List.length_drop,←Lib.size_eq];omega) w;have HS:=zO s (by omega);have HN:=xG s;have h2':(2:Int)≤(s.size:Int):=by omega
  clear h2;generalize dJ (nums s)=o at*
  generalize(nums s).getD 0 0=x at*
  generalize(nums s).getD 1 0=y at*
  by_cases hy1:y=32
  ·subst hy1;by_cases hx1:x=113
   ·subst hx1;have HO:Hid (o=(fL (s.extract 2 s.size)).map fun l=>(true,strOfNums l)):=HS (Or.inl rfl) rfl;clear HS HN;generalize fL (s.extract 2 s.size)=D at*;go_in;go_wp2_with fail
    refine HD.out.mono ?_;rintro e w1 ⟨rfl,B1⟩;have HB:Hid (Below w.heap.size w w1):=B1;clear B1 HD;go_wp2_with fail
    go_ret3
    refine⟨?_,HB.out⟩
    rw[HO.out]
    cases D with
    |none=>exact Or.inr ⟨rfl,_,_,rfl⟩
    |some l=>exact Or.inl ⟨true,strOfNums l,rfl,rfl⟩
   ·by_cases hx2:x=99
    ·subst hx2;have HO:Hid (o=(fL (s.extract 2 s.size)).map fun l=>(false,strOfNums l)):=HS (Or.inr rfl) rfl;clear HS HN hx1;generalize fL (s.extract 2 s.size)=D at*;go_in;go_wp2_with fail
     refine HD.out.mono ?_;rintro e w1 ⟨rfl,B1⟩;have HB:Hid (Below w.heap.size w w1):=B1;clear B1 HD;go_wp2_with fail
     go_ret3
     refine⟨?_,HB.out⟩
     rw[HO.out]
     cases D with
     |none=>exact Or.inr ⟨rfl,_,_,rfl⟩
     |some l=>exact Or.inl ⟨false,strOfNums l,rfl,rfl⟩
    ·have HA:Hid (o=none):=HN (Or.inr (Or.inl ⟨hx1,hx2⟩));clear HS HN HD;go_in;go_wp2_with fail
     go_ret3
     exact⟨Or.inr ⟨HA.out,_,_,rfl⟩,Below.refl _ _⟩
  ·have HA:Hid (o=none):=HN (Or.inr (Or.inr hy1));clear HS HN HD;by_cases hx1:x=113
   ·subst hx1;go_in;go_wp2_with fail
    go_ret3
    exact⟨Or.inr ⟨HA.out,_,_,rfl⟩,Below.refl _ _⟩
   ·by_cases hx2:x=99
    ·subst hx2;go_in;go_wp2_with fail
     go_ret3
     exact⟨Or.inr ⟨HA.out,_,_,rfl⟩,Below.refl _ _⟩
    ·go_in;go_wp2_with fail
     go_ret3
     exact⟨Or.inr ⟨HA.out,_,_,rfl⟩,Below.refl _ _⟩
def Ip (U:Nat→Prop)(H:Nat)(g:PG)(aa:Int)(log:ByteArray)(w:World)(e:Ending)(w':World):Prop:=
 (∃h',aZ g.R 1 (HS.zero aa) (aN (nums log))=(h',none)∧e=.returned (.tuple #[.int .i64 0,.bool true])∧aA U H g h' w w')∨
 (∃h' n,aZ g.R 1 (HS.zero aa) (aN (nums log))=(h',some n)∧e=.returned (.tuple #[.int .i64 (n:Nat),.bool false])∧Fr U w w')
theorem zP {w:World}{U:Nat→Prop}{d:HD}{g:PG}{aa:Int}(p:HG w U d g (HS.zero aa))(log:ByteArray)(hlog:log.size≤9223372036854775806):
  Calls Tryz.prog 83 #[.pointer (some ⟨d.H,0,none⟩),.string log] w (Ip U d.H g aa log w):=by
 have HC:Hid (∀(s:ByteArray) (W:World),s.size≤9223372036854775806→Calls Tryz.prog 125 #[.string s,.string ⟨#[10]⟩] W fun e w'=>(∃line rest whole,e=.returned (.tuple #[.string line,.string rest,.bool whole])∧pN s line rest whole)∧Below W.heap.size W w'):=fun s W hs=>zM s hs W
 have HRD:Hid (∀(s:ByteArray) (W:World),s.size≤9223372036854775806→Calls Tryz.prog 126 #[.string s] W fun e w'=>AW (dJ (nums s)) e∧Below W.heap.size W w'):=fun s W hs=>Fy s hs W
 have HTR:Hid (∀W k h line rest whole (s:ByteArray),aA U d.H g h w W→je g.R log (HS.zero aa) k h line rest whole→s.size≤24→Calls Tryz.prog 79 #[.pointer (some ⟨d.H,0,none⟩),.string s] W fun e w'=>e=.returned (.int .u8 (aD g.R h s).2)∧aA U d.H g (aD g.R h s).1 w w'):=fun W k h line rest whole s t f hs=>by
  obtain⟨i1,i2,i3,i4⟩:=f.inv g.mC
  have q:=t.ht p
  obtain⟨d',hd',p'⟩:=t.hu
  have hk:=jB i1 p.ok.EL
  have:=uG p' p.ok q.tab (iJ g.mC i1) (i1.sz p.ok (by omega) (by omega)) s hs
  rw[hd']at this;exact this.mono fun e w' ⟨x,y⟩=>⟨x,t.then y⟩
 have H0:=hid (aA.refl p.hu);have HKK:Hid (∀k h line rest whole,je g.R log (HS.zero aa) k h line rest whole→k≤120030):=fun k h line rest whole f=>by
  obtain⟨i1,i2,i3,i4⟩:=f.inv g.mC
  have hk:=jB i1 p.ok.EL;omega
 have HBG:Hid (∀line rest whole,pN log line rest whole→je g.R log (HS.zero aa) 0 (HS.zero aa) line rest whole):=fun line rest whole c=>je.begin _ _ _ c.1
 clear p;go_in;go_wp2_with fail
 refine(HC.out log w hlog).mono ?_
 rintro e w1 ⟨⟨line0,rest0,whole0,rfl,c0⟩,B1⟩;have HI:Hid (je g.R log (HS.zero aa) 0 (HS.zero aa) line0 rest0 whole0∧aA U d.H g (HS.zero aa) w w1∧line0.size≤9223372036854775806∧(whole0=true→rest0.size≤9223372036854775806)):=⟨HBG.out _ _ _ c0,H0.out.dY B1,by have:=c0.2.1;omega,fun h=>by have:=c0.2.2 h;omega⟩;clear c0 B1 H0 HBG;go_wp2_with fail
 go_loopw [6,7,8,9,10,11,12] (fun a6 a7 a8 a9 _ _ _ wr=>∃(k:Nat) (h:HS) (line rest:ByteArray) (whole:Bool),a6=.string line∧a7=.string rest∧a8=.bool whole∧a9=.int .i64 ((k+1:Nat):Int)∧je g.R log (HS.zero aa) k h line rest whole∧aA U d.H g h w wr∧line.size≤9223372036854775806∧(whole=true→rest.size≤9223372036854775806)) (fun _ _ _ a9 _ _ _ _=>(aN (nums log)).length+1-(intOf a9).toNat)
 case atStart=>exact ⟨0,_,_,_,_,rfl,rfl,rfl,rfl,HI.out⟩
 case round=>
  obtain⟨k,h,line,rest,whole,rfl,rfl,rfl,rfl,hF,hT,hl1,hl2⟩:=hrel
  have hk:=HKK.out _ _ _ _ _ hF
  cases whole with
  |false=>
   have HP:Hid (aZ g.R 1 (HS.zero aa) (aN (nums log))=(h,none)∧aA U d.H g h w wr):=⟨hF.last,hT⟩;clear hF hT hl2;go_wp2_with fail
   go_ret2;exact Or.inl ⟨h,HP.out.1,rfl,HP.out.2⟩
  |true=>
   have HF:Hid (je g.R log (HS.zero aa) k h line rest true∧aA U d.H g h w wr):=⟨hF,hT⟩;have hr2:=hl2 rfl;have H1:=hid (HRD.out line wr hl1);clear hF hT hl2;go_wp2_with fail
   refine H1.out.mono ?_;rintro e w2 ⟨hR,B2⟩;have HT2:=hid (HF.out.2.dY B2);clear B2 H1;rcases hR with⟨b,t,ho,rfl⟩|⟨ho,x,y,rfl⟩
   ·have ht24:t.size≤24:=(qh ho).2;have H2:=hid (HTR.out w2 k h line rest true t HT2.out HF.out.1 ht24);have HO:=hid ho;clear ho ht24
    obtain⟨h3,hh3⟩:∃h3,(aD g.R h t).1=h3:=⟨_,rfl⟩
    obtain⟨l3,hl3⟩:∃l3,(aD g.R h t).2=l3:=⟨_,rfl⟩
    rw[hh3,hl3]at H2;have HH3:Hid ((aD g.R h t).1=h3∧(aD g.R h t).2=l3):=⟨hh3,hl3⟩;clear hh3 hl3;by_cases hne:l3=letter b
    ·have HNE:=hid hne;clear hne;generalize hlb:letter b=lb at*;obtain rfl:l3=lb:=HNE.out;go_wp2_with fail
     refine H2.out.mono ?_;rintro e w3 ⟨rfl,t3⟩;have HT3:=hid t3;clear t3 H2;go_wp2_with fail
     refine(HC.out rest w3 hr2).mono ?_
     rintro e w4 ⟨⟨line4,rest4,whole4,rfl,c4⟩,B4⟩;have HN:Hid (je g.R log (HS.zero aa) (k+1) h3 line4 rest4 whole4∧aA U d.H g h3 w w4∧line4.size≤9223372036854775806∧(whole4=true→rest4.size≤9223372036854775806)):=by
      have f:=HF.out.1.next HO.out (by rw[HH3.out.2,hlb]) c4.1;rw[HH3.out.1]at f
      exact⟨f,HT3.out.dY B4,by have:=c4.2.1;omega,fun h=>by have:=c4.2.2 h;omega⟩
     have HKL:=hid HF.out.1.get.1;clear c4 B4 hlb;go_wp2_with fail
     go_roundw
     case rel=>exact ⟨k+1,h3,line4,rest4,whole4,rfl,rfl,rfl,by go_num,HN.out⟩
     case measure=>have:=HKL.out;simp[intOf];omega
    ·have hlb':=hne;generalize hlb:letter b=lb at*;go_wp2_with fail
     refine H2.out.mono ?_;rintro e w3 ⟨rfl,t3⟩;have HT3:=hid t3;clear t3 H2;go_wp2_with fail
     go_ret2;refine Or.inr ⟨h3,k+1,?_,by go_num,HT3.out.fr⟩;have f:=HF.out.1.wrong HO.out (by rw[HH3.out.2,hlb];exact hlb');rw[HH3.out.1]at f;exact f
   ·have HB:=hid (HF.out.1.bad ho);clear ho;go_wp2_with fail
    go_ret2;exact Or.inr ⟨h,k+1,HB.out,by go_num,HT2.out.fr⟩
def AX (lo:Nat)(g:PG)(aa:Int)(log:ByteArray)(w:World)(e:Ending)(w':World):Prop:=
 Below lo w w'∧((∃h' H U,aZ g.R 1 (HS.zero aa) (aN (nums log))=(h',none)∧e=.returned (.tuple #[.pointer (some ⟨H,0,none⟩),.int .i64 0,.int .i64 0])∧jC lo U H g h' w')∨
 (∃h' n,aZ g.R 1 (HS.zero aa) (aN (nums log))=(h',some n)∧e=.returned (.tuple #[.pointer none,.int .i64 (n:Nat),.int .i64 5])))
theorem Fz {w w1:World}{g:PG}{aa:Int}{H:Nat}(s0:0≤aa)(s1:aa≤18446744073709551615)(m:Made w g (HS.zero aa) H w1)(log:ByteArray)(hlog:log.size≤9223372036854775806):
  Calls Tryz.prog 83 #[.pointer (some ⟨H,0,none⟩),.string log] w1 fun e w2=>Below w.heap.size w w2∧((∃h' U,aZ g.R 1 (HS.zero aa) (aN (nums log))=(h',none)∧e=.returned (.tuple #[.int .i64 0,.bool true])∧jC w.heap.size U H g h' w2)∨(∃h' n,aZ g.R 1 (HS.zero aa) (aN (nums log))=(h',some n)∧e=.returned (.tuple #[.int .i64 (n:Nat),.bool false]))):=by
 obtain⟨U,d,rfl,G,hU⟩:=m.hg
 refine(zP G log hlog).mono ?_
 have hms:=m.dY.size;have low:∀w2,Fr U w1 w2→Below w.heap.size w w2:=fun w2 f=>m.dY.trans (f.low hU hms)
 rintro e w2 (⟨h',hf,rfl,t⟩|⟨h',n,hf,rfl,f⟩)
 ·refine⟨low w2 t.fr,Or.inl ⟨h',Gr U w1 w2,hf,rfl,?_,?_⟩⟩
  ·obtain⟨l,e1,e2,e3⟩:=lV g.R _ _ _ _ hf
   have q:=t.ht G
   obtain⟨d',hd',p'⟩:=t.hu
   exact⟨d',hd',p',G.ok,cE.iI g.mC l _ _ (lS g.R aa) e2 e3,Hpos.iI l _ _ (oG aa s0 s1) e3,q.tab,q.pI⟩
  ·intro k hk;rcases hk with c|c
   ·exact hU k c
   ·omega
 ·exact⟨low w2 f,Or.inr ⟨h',n,hf,rfl⟩⟩
theorem xH (w:World)(cb co cap:Nat)(g:PG)(ok:oM g)(C:Laid w cb co g.L cap g.c)(log:ByteArray)(hlog:log.size≤9223372036854775806)(aa:Int)(s0:0≤aa)(s1:aa≤18446744073709551615)(hT:bK w)(hM:kT w)(h3:3≤w.heap.size):
  Calls Tryz.prog 40 #[.slice (some ⟨cb,co,none⟩) g.L cap,.string log,.int .u64 aa,.int .i64 g.fuel] w (AX w.heap.size g aa log w):=by
 have H1:=hid (mP w cb co g.L cap g.N g.c ok.vp C hT);have hf0:=ok.wW;have hf1:=ok.fuel1;have H3:Hid (∀W,Calls Tryz.prog 77 #[.int .i64 g.fuel] W fun e w'=>e=.returned (.bool true)∧w'=W):=fun W=>by
  have:=iK W g.fuel
  rw[decide_eq_true hf0,decide_eq_true hf1]at this;exact this
 have H4:Hid (∀W,Below w.heap.size w W→Calls Tryz.prog 78 #[.slice (some ⟨cb,co,none⟩) g.L cap,.int .u64 aa,.int .i64 g.fuel] W fun e w'=>(∃b' cap',e=.returned (.agg (hcells (.slice (some ⟨b',0,none⟩) g.L cap') aa g.fuel))∧w.heap.size≤b'∧Laid w' b' 0 g.L cap' g.c)∧Below w.heap.size w w'):=fun W b=>
  (xh W cb co g.L cap g.c (C.below b) ok.vp.most aa g.fuel).mono fun e w' ⟨⟨b',c',x,y,z⟩,t⟩=>⟨⟨b',c',x,Nat.le_trans b.size y,z⟩,b.trans (t.mono b.size)⟩
 have H5:Hid (∀w1 b' cap',Below w.heap.size w w1→w.heap.size≤b'→Laid w1 b' 0 g.L cap' g.c→Made w g (HS.zero aa) w1.heap.size (w1.alloc (.cells (hcells (.slice (some ⟨b',0,none⟩) g.L cap') aa g.fuel) 139))):=fun w1 b' cap' b hb Cb=>
  ⟨b.size,b.trans ((Below.refl _ _).alloc b.size _),_,_,rfl,EX ok b' cap' aa s0 s1 b hb Cb hT hM h3,fun k hk=>hk.1⟩
 have HFO:Hid (∀W H,Made w g (HS.zero aa) H W→Calls Tryz.prog 83 #[.pointer (some ⟨H,0,none⟩),.string log] W fun e w2=>Below w.heap.size w w2∧((∃h' U,aZ g.R 1 (HS.zero aa) (aN (nums log))=(h',none)∧e=.returned (.tuple #[.int .i64 0,.bool true])∧jC w.heap.size U H g h' w2)∨(∃h' n,aZ g.R 1 (HS.zero aa) (aN (nums log))=(h',some n)∧e=.returned (.tuple #[.int .i64 (n:Nat),.bool false])))):=fun W H m=>Fz s0 s1 m log hlog
 clear hT hM h3 ok C;generalize g.L=gL at*;generalize g.fuel=gf at*;go_in;go_wp2_with fail
 refine H1.out.mono ?_;rintro e w1 ⟨rfl,B1⟩;have HB1:=hid B1;clear B1;go_wp2_with fail
 refine(H3.out w1).mono ?_
 rintro e w3 ⟨rfl,hw3⟩;obtain rfl:=hw3.symm;go_wp2_with fail
 refine(H4.out w1 HB1.out).mono ?_
 rintro e w4 ⟨⟨b4,c4,rfl,hb4,C4⟩,B4⟩;have HMD:=hid (H5.out w4 b4 c4 B4 hb4 C4);clear B4 hb4 C4 H1 H3 H4 H5;go_wp2_with(first|refine iW rfl 139 0 _ rfl (.agg (hcells (.slice (some ⟨b4,0,none⟩) gL c4) aa gf)) rfl (hcells (.slice (some ⟨b4,0,none⟩) gL c4) aa gf) (EW b4 gL c4 aa gf) ?_)
 generalize hcells (.slice (some ⟨b4,0,none⟩) gL c4) aa gf=cs at*
 refine(HFO.out _ _ HMD.out).mono ?_
 rintro e w5 ⟨B5,⟨h',U,hf,rfl,pw⟩|⟨h',n,hf,rfl⟩⟩
 ·have HP:Hid (Below w.heap.size w w5∧aZ g.R 1 (HS.zero aa) (aN (nums log))=(h',none)∧jC w.heap.size U w4.heap.size g h' w5):=⟨B5,hf,pw⟩;clear B5 hf pw HMD HFO;go_wp2_with fail
  go_ret3
  exact⟨HP.out.1,Or.inl ⟨h',w4.heap.size,U,HP.out.2.1,rfl,HP.out.2.2⟩⟩
 ·have HP:Hid (Below w.heap.size w w5∧aZ g.R 1 (HS.zero aa) (aN (nums log))=(h',some n)):=⟨B5,hf⟩;clear B5 hf HMD HFO;go_wp2_with fail
  go_ret3
  exact⟨HP.out.1,Or.inr ⟨h',n,HP.out.2,rfl⟩⟩
theorem mN {T e:TypeId}{B b:Nat}{p:Value}{bs:List Value}{w w':World}(h:Lib.BuilderAt T e B b p bs w)(bb:Below w.heap.size w w'):Lib.BuilderAt T e B b p bs w':=by
 obtain⟨hB,v,hb,hown,hne⟩:=h
 exact⟨hB,v,(bb.block b (Array.getElem?_eq_some_iff.1 hb).1).trans hb,ay hown (fun k hk=>bb.block k (aL hown hk)),hne⟩
theorem Db {T e:TypeId}{B b:Nat}{bs:List Value}{w w':World}(h:Lib.IsBuilder T e B b bs w)(bb:Below w.heap.size w w'):Lib.IsBuilder T e B b bs w':=h.elim (fun c=>Or.inl (mN c bb)) (fun c=>Or.inr (mN c bb))
theorem rP (a b:List UInt8):Lib.byteCells (a++b)=Lib.byteCells a++Lib.byteCells b:=by simp[Lib.byteCells]
theorem xQ (t:ByteArray)(f q:Int)(w:World):(Instr.field 67 (.agg #[.string t,.int .i64 f,.int .i64 q]) 0).run Tryz.prog w=.ok (.string t) w:=by kernel_rfl
structure jk (w wr:World) (h:HS) (n:Nat):Prop where
 dY:Below w.heap.size w wr
 LW:Lib.IsBuilder 200 5 w.heap.size w.heap.size (Lib.byteCells (ni (h.az.take n))) wr
theorem jk.below {w wr w':World}{h:HS}{n:Nat}(l:jk w wr h n)(b:Below wr.heap.size wr w'):jk w w' h n:=⟨l.dY.trans (b.mono l.dY.size),Db l.LW b⟩
theorem jk.wrote {w wr:World}{h:HS}{n:Nat}(l:jk w wr h n){b:Bool}{s:ByteArray}(hn:h.az[n]?=some (b,s))(hs:s.size≤24)(hl:(ni (h.az.take n)).length≤51*1000000):
  Calls Tryz.prog 131 #[.pointer (some ⟨w.heap.size,0,none⟩),.string (strOfNums (cI b s))] wr fun e w'=>(∃k,e=.returned (.tuple #[.int .i64 k,.nilIface]))∧jk w w' h (n+1):=by
 have h1:=CV b s hs
 refine(xw w.heap.size w.heap.size _ (strOfNums (cI b s)) wr l.LW (by rw[show(Lib.byteCells (ni (h.az.take n))).length=(ni (h.az.take n)).length by simp[Lib.byteCells]];omega) l.dY.size).mono ?_
 rintro e w' ⟨rfl,hb,B⟩
 refine⟨⟨_,rfl⟩,l.dY.trans B,Or.inr ?_⟩
 obtain⟨hlt,hx⟩:=List.getElem?_eq_some_iff.1 hn
 rw[List.take_succ_eq_append_getElem hlt,hx,CU,rP];exact hb
theorem Dc (l:List (Bool×ByteArray))(n:Nat)(b:Bool)(s:ByteArray)(hn:l[n]?=some (b,s)):((l.take (n+1)).filterMap nE).length=((l.take n).filterMap nE).length+(if b then 1 else 0)∧((l.take (n+1)).filterMap nu).length=((l.take n).filterMap nu).length+(if b then 0 else 1):=by
 obtain⟨hlt,hx⟩:=List.getElem?_eq_some_iff.1 hn
 rw[List.take_succ_eq_append_getElem hlt,hx,List.filterMap_append,List.filterMap_append]
 cases b<;>simp [nE,nu]
theorem FL {w:World}{U:Nat→Prop}{d:HD}{g:PG}{h:HS}(p:HU w U d g h)(inv:cE g.R h)(hh:h.az.length≤1000000):
  Calls Tryz.prog 91 #[.pointer (some ⟨d.H,0,none⟩)] w fun e w'=>e=.returned (.string (strOfNums (gQ h.az)))∧Below w.heap.size w w':=by
 have hH:d.H<w.heap.size:=p.lt _ (p.dR _ (Or.inl rfl))
 obtain⟨G,KK⟩:=p.I0
 have HA:Hid (∀W n,Below w.heap.size w W→n<h.kept.length→Calls Tryz.prog 128 #[.pointer (some ⟨d.H,7,none⟩),.int .i64 (n:Nat)] W fun e w'=>e=.returned (.agg #[.string (h.kept.getD n fV).text,.slice (some ⟨G n,0,none⟩) 64 64])∧Below W.heap.size W w'):=fun W n b hn=>jX W d.H d.vk G h.kept ((b.cell (p:=⟨d.H,7,none⟩) hH).trans (p.cell 7 (by omega))) (KK.below b) n hn
 have HC:Hid (∀W n,Below w.heap.size w W→n<h.found.length→Calls Tryz.prog 133 #[.pointer (some ⟨d.H,8,none⟩),.int .i64 (n:Nat)] W fun e w'=>e=.returned (.agg #[.string (h.found.getD n mY).text,.int .i64 (h.found.getD n mY).fault,.int .i64 (h.found.getD n mY).place])∧Below W.heap.size W w'):=fun W n b hn=>Fc (p.below b) n hn
 have HI:Hid (∀(n:Nat) (b:Bool) (s:ByteArray),h.az[n]?=some (b,s)→s.size≤24∧(if b then((h.az.take n).filterMap nE).length<h.kept.length∧(h.kept.getD ((h.az.take n).filterMap nE).length fV).text=s
   else((h.az.take n).filterMap nu).length<h.found.length∧(h.found.getD ((h.az.take n).filterMap nu).length mY).text=s)):=fun n b s=>AL inv n b s
 have c9:w.cell? ⟨d.H,9,none⟩=some d.vc:=p.cell 9 (by omega);have HBL:Hid (∀n,(ni (h.az.take n)).length≤51*1000000):=fun n=>by
  have:=xx (h.az.take n) (fun x hx=>by
   obtain⟨i,hi⟩:=List.getElem?_of_mem hx
   rw[List.getElem?_take]at hi;split at hi
   ·exact(AL inv i x.1 x.2 hi).1
   ·cases hi)
  have h2:(h.az.take n).length≤1000000:=by rw[List.length_take];omega
  omega
 have HR:Hid ((d.vc=.slice none 0 0∧h.az.length=0)∨∃b cap,d.vc=.slice (some ⟨b,0,none⟩) h.az.length cap∧b<w.heap.size∧cap≤maxLen∧h.az.length≤cap∧∀(i:Nat) (u:Value),(oH h.az)[i]?=some u→w.cell? ⟨b,i,none⟩=some u):=aO p.rc;have HL0:Hid (jk w (w.alloc (.cells #[.pointer none,.slice none 0 0] 200)) h 0):=⟨(Below.refl _ _).alloc (Nat.le_refl _) _,Lib.fresh_isBuilder 200 5 w⟩;have hvf:∃ao cp,d.vc=.slice ao h.az.length cp:=by
  rcases HR.out with⟨e,h0⟩|⟨b,cp,e,_⟩
  ·exact⟨none,0,by rw[e,h0]⟩
  ·exact⟨_,cp,e⟩
 obtain⟨ao,cp,hvc⟩:=hvf
 rw[hvc]at c9 HR;have HGET:Hid (∀n,n<h.az.length→∃b s,h.az[n]?=some (b,s)∧∃bb,ao=some ⟨bb,0,none⟩∧bb<w.heap.size∧w.cell? ⟨bb,n,none⟩=some (.int .u8 (letter b))):=fun n hn=>by
  refine⟨(h.az[n]).1,(h.az[n]).2,List.getElem?_eq_getElem hn,?_⟩
  rcases HR.out with⟨_,h0⟩|⟨b,cp',e,hb,_,_,hc⟩
  ·omega
  ·injection e with e1 _ _
   refine⟨b,e1,hb,hc n _ ?_⟩
   unfold oH;rw[List.getElem?_map,List.getElem?_eq_getElem hn];rfl
 have hft:=ji;have hfc:=xQ;have HFIN:Hid (∀wr,jk w wr h h.az.length→Calls Tryz.prog 134 #[.pointer (some ⟨w.heap.size,0,none⟩)] wr fun e w'=>e=.returned (.string (strOfNums (gQ h.az)))∧Below w.heap.size w w'):=fun wr l=>by
  have hi:=l.LW;rw[List.take_length]at hi
  refine(Tryz.Builder_String_any w.heap.size w.heap.size _ wr hi l.dY.size).mono ?_
  rintro e w' ⟨rfl,B⟩
  refine⟨?_,l.dY.trans B⟩
  rw[AM]
 have HWR:Hid (∀(wr:World) (n:Nat) (b:Bool) (s:ByteArray),jk w wr h n→h.az[n]?=some (b,s)→s.size≤24→Calls Tryz.prog 131 #[.pointer (some ⟨w.heap.size,0,none⟩),.string (strOfNums (cI b s))] wr fun e w'=>(∃k,e=.returned (.tuple #[.int .i64 k,.nilIface]))∧jk w w' h (n+1)):=fun wr n b s l hn hs=>l.wrote hn hs (HBL.out n)
 have HHT:Hid (∀(n:Nat) (b:Bool) (s:ByteArray),h.az[n]?=some (b,s)→((h.az.take (n+1)).filterMap nE).length=((h.az.take n).filterMap nE).length+(if b then 1 else 0)∧((h.az.take (n+1)).filterMap nu).length=((h.az.take n).filterMap nu).length+(if b then 0 else 1)):=fun n b s=>Dc h.az n b s
 have HTL:Hid (∀n,((h.az.take n).filterMap nE).length≤1000000∧((h.az.take n).filterMap nu).length≤1000000):=fun n=>by
  have h1:=List.length_filterMap_le nE (h.az.take n);have h2:=List.length_filterMap_le nu (h.az.take n);rw[List.length_take]at h1 h2;omega
 have HNN:=hid hh;clear p inv KK HBL HR hvc hh
 obtain⟨tx,htx⟩:∃tx,strOfNums (gQ h.az)=tx:=⟨_,rfl⟩
 rw[htx]at HFIN⊢;clear htx;generalize hN:h.az.length=N at*;go_in;go_wp2_with fail
 go_loopw [4,5,7,13] (fun k f _ i wr=>∃n:Nat,n≤N∧i=.int .i64 n∧k=.int .i64 (((h.az.take n).filterMap nE).length:Nat)∧f=.int .i64 (((h.az.take n).filterMap nu).length:Nat)∧jk w wr h n) (fun _ _ _ i _=>N-(intOf i).toNat)
 case atStart=>exact ⟨0,by omega,rfl,rfl,rfl,HL0.out⟩
 case round=>
  obtain⟨n,hn,rfl,rfl,rfl,hL⟩:=hrel
  have hnb:=Nat.le_trans hn HNN.out;by_cases hlt:n<N
  ·have hi1:(n:Int)<(N:Int):=by omega
   obtain⟨b,s,hs,bb,rfl,hbl,cl⟩:=HGET.out n hlt
   have cl':wr.cell? ⟨bb,n,none⟩=some (.int .u8 (letter b)):=(hL.dY.cell (p:=⟨bb,n,none⟩) hbl).trans cl
   obtain⟨h24,hif⟩:=HI.out n b s hs
   obtain⟨ek,ef⟩:=HHT.out n b s hs
   obtain⟨tk,tf⟩:=HTL.out n
   have HLL:=hid hL;have HLT:=hid hlt;clear cl hL
   cases b with
   |true=>
    rw[if_pos rfl]at hif ek ef;have H1:Hid (Calls Tryz.prog 128 #[.pointer (some ⟨d.H,7,none⟩),.int .i64 (((h.az.take n).filterMap nE).length:Nat)] wr fun e w'=>e=.returned (.agg #[.string s,.slice (some ⟨G ((h.az.take n).filterMap nE).length,0,none⟩) 64 64])∧Below wr.heap.size wr w'):=by
     have:=HA.out wr _ HLL.out.dY hif.1
     rw[hif.2]at this;exact this
    have H2:Hid (∀W,Calls Tryz.prog 132 #[.int .u8 113,.string s] W fun e w'=>e=.returned (.string (strOfNums (cI true s)))∧Below W.heap.size W w'):=fun W=>pL W true s (by omega)
    have H3:Hid (∀W,jk w W h n→Calls Tryz.prog 131 #[.pointer (some ⟨w.heap.size,0,none⟩),.string (strOfNums (cI true s))] W fun e w'=>(∃k,e=.returned (.tuple #[.int .i64 k,.nilIface]))∧jk w w' h (n+1)):=fun W l=>HWR.out W n true s l hs h24
    have cl2:=cl';have HEK:Hid (((h.az.take (n+1)).filterMap nE).length=((h.az.take n).filterMap nE).length+1∧((h.az.take (n+1)).filterMap nu).length=((h.az.take n).filterMap nu).length):=⟨ek,ef⟩;clear hif ek ef hs h24 cl'
    generalize((h.az.take n).filterMap nE).length=kk at*
    generalize((h.az.take n).filterMap nu).length=ff at*
    generalize strOfNums (cI true s)=ln at*;generalize G kk=gk at*;go_wp2_with fail
    refine H1.out.mono ?_;rintro e w2 ⟨rfl,B2⟩;have HL2:=hid (HLL.out.below B2);clear B2 H1 cl2;go_wp2_with fail
    refine(H2.out w2).mono ?_
    rintro e w3 ⟨rfl,B3⟩;have HL3:=hid (HL2.out.below B3);clear B3 H2;go_wp2_with fail
    refine(H3.out w3 HL3.out).mono ?_
    rintro e w4 ⟨⟨k4,rfl⟩,l4⟩;have HL4:=hid l4;clear l4 H3;go_wp2_with fail
    go_roundw
    case rel=>exact ⟨n+1,by have:=HLT.out;omega,by go_num,by rw[HEK.out.1];go_num,by rw[HEK.out.2],HL4.out⟩
    case measure=>have:=HLT.out;simp[intOf];omega
   |false=>
    rw[if_neg (by decide)]at hif ek ef;have H1:Hid (Calls Tryz.prog 133 #[.pointer (some ⟨d.H,8,none⟩),.int .i64 (((h.az.take n).filterMap nu).length:Nat)] wr fun e w'=>e=.returned (.agg #[.string s,.int .i64 (h.found.getD ((h.az.take n).filterMap nu).length mY).fault,.int .i64 (h.found.getD ((h.az.take n).filterMap nu).length mY).place])∧Below wr.heap.size wr w'):=by
     have:=HC.out wr _ HLL.out.dY hif.1
     rw[hif.2]at this;exact this
    have H2:Hid (∀W,Calls Tryz.prog 132 #[.int .u8 99,.string s] W fun e w'=>e=.returned (.string (strOfNums (cI false s)))∧Below W.heap.size W w'):=fun W=>pL W false s (by omega)
    have H3:Hid (∀W,jk w W h n→Calls Tryz.prog 131 #[.pointer (some ⟨w.heap.size,0,none⟩),.string (strOfNums (cI false s))] W fun e w'=>(∃k,e=.returned (.tuple #[.int .i64 k,.nilIface]))∧jk w w' h (n+1)):=fun W l=>HWR.out W n false s l hs h24
    have cl2:=cl';have HEK:Hid (((h.az.take (n+1)).filterMap nE).length=((h.az.take n).filterMap nE).length∧((h.az.take (n+1)).filterMap nu).length=((h.az.take n).filterMap nu).length+1):=⟨ek,ef⟩;clear hif ek ef hs h24 cl'
    generalize((h.az.take n).filterMap nE).length=kk at*
    generalize((h.az.take n).filterMap nu).length=ff at*
    generalize strOfNums (cI false s)=ln at*
    generalize(h.found.getD ff mY).fault=fa at*
    generalize(h.found.getD ff mY).place=pl at*
    go_wp2_with fail
    refine H1.out.mono ?_;rintro e w2 ⟨rfl,B2⟩;have HL2:=hid (HLL.out.below B2);clear B2 H1 cl2;go_wp2_with fail
    refine(H2.out w2).mono ?_
    rintro e w3 ⟨rfl,B3⟩;have HL3:=hid (HL2.out.below B3);clear B3 H2;go_wp2_with fail
    refine(H3.out w3 HL3.out).mono ?_
    rintro e w4 ⟨⟨k4,rfl⟩,l4⟩;have HL4:=hid l4;clear l4 H3;go_wp2_with fail
    go_roundw
    case rel=>exact ⟨n+1,by have:=HLT.out;omega,by go_num,by rw[HEK.out.1],by rw[HEK.out.2];go_num,HL4.out⟩
    case measure=>have:=HLT.out;simp[intOf];omega
  ·have hi1:¬(n:Int)<(N:Int):=(by omega);have H1:Hid (Calls Tryz.prog 134 #[.pointer (some ⟨w.heap.size,0,none⟩)] wr fun e w'=>e=.returned (.string tx)∧Below w.heap.size w w'):=HFIN.out wr (by
    have e:n=N:=(by omega);rw[←e];exact hL)
   clear hL;go_wp2_with fail
   refine H1.out.mono ?_;rintro e w2 ⟨rfl,B2⟩;have HB2:=hid B2;clear B2 H1;go_wp2_with fail
   go_ret
   exact⟨rfl,HB2.out⟩
theorem IA (w:World)(H:Nat)(s:ByteArray)(H1:Hid (Calls Tryz.prog 91 #[.pointer (some ⟨H,0,none⟩)] w fun e w'=>e=.returned (.string s)∧Below w.heap.size w w')):
  Calls Tryz.prog 47 #[.pointer (some ⟨H,0,none⟩)] w fun e w'=>e=.returned (.string s)∧Below w.heap.size w w':=by
 have H0:=hid (kK w H);go_in;go_wp2_with fail
 refine H0.out.mono ?_;rintro e w1 ⟨rfl,hw⟩;obtain rfl:=hw.symm;go_wp2_with fail
 refine H1.out.mono ?_;rintro e w2 ⟨rfl,B2⟩;have HB2:=hid B2;clear B2 H1 H0;go_wp2_with fail
 go_ret
 exact⟨rfl,HB2.out⟩
end Go.Proofs.YtmpgjkhchfcjlaaGreatDoor
