import Derived.Test.YtmpgjkhchfcjlaaGreatDoorM20
import Derived.Test.YtmpgjkhchfcjlaaGreatDoorM21
import Derived.Lib.IndexLaws
namespace Go.Proofs.YtmpgjkhchfcjlaaGreatDoor
open Go.RowKit
set_option maxRecDepth 100000
set_option maxHeartbeats 2000000
theorem Ey (s:ByteArray)(h:Lib.indexByte s.data.toList 10= -1):aN (nums s)=[]:=by
 apply yG;intro c;unfold nums at c
 obtain⟨b,hb,e⟩:=List.mem_map.1 c
 obtain⟨k,hk⟩:=List.getElem?_of_mem hb
 have:b=10:=UInt8.toNat_inj.1 (by show b.toNat=10;omega)
 rw[this]at hk;exact Lib.indexByte_none h k hk
theorem wO (s:ByteArray)(i:Nat)(h:Lib.indexByte s.data.toList 10=i):i<s.size∧aN (nums s)=nums (s.extract 0 i)::aN (nums (s.extract (i+1) s.size)):=by
 obtain⟨h1,h2⟩:=Lib.indexByte_some h
 obtain⟨hlt,h1'⟩:=List.getElem?_eq_some_iff.1 h1
 have hls:i<s.size:=by rw[Lib.size_eq];exact hlt
 refine⟨hls,?_⟩
 have hn:i<(nums s).length:=by rw[af];exact hls
 have e10:(nums s)[i]=10:=by
  have:(nums s)[i]?=some 10:=by unfold nums;rw[List.getElem?_map,h1];rfl
  rw[List.getElem?_eq_getElem hn]at this;injection this
 have hs:nums s=(nums s).take i++10::(nums s).drop (i+1):=by
  conv=>lhs;rw[←List.take_append_drop i (nums s),List.drop_eq_getElem_cons hn,e10]
 have ha:(10:Int)∉(nums s).take i:=by
  intro c
  obtain⟨k,hk,e⟩:=List.mem_take_iff_getElem.1 c
  have hk':k<i:=by omega
  have hks:k<s.data.toList.length:=by rw[←Lib.size_eq];omega
  have e':(nums s)[k]?=some 10:=by rw[List.getElem?_eq_getElem (by rw[af];omega),e]
  unfold nums at e';rw[List.getElem?_map,List.getElem?_eq_getElem hks]at e';have e2:((s.data.toList[k]).toNat:Int)=10:=by injection e'
  have:s.data.toList[k]=10:=UInt8.toNat_inj.1 (by show(s.data.toList[k]).toNat=10;omega)
  exact h2 k hk' (by rw[List.getElem?_eq_getElem hks,this])
 rw[aU,aU,List.drop_zero,Nat.sub_zero];conv=>lhs;rw[hs]
 rw[BT _ _ ha,List.take_of_length_le (l:=(nums s).drop (i+1)) (by rw[List.length_drop,af];exact Nat.le_refl _)]
structure je (R:ByteArray→Sh) (log:ByteArray) (h0:HS) (k:Nat) (h:HS) (line rest:ByteArray) (whole:Bool):Prop where
 done:aZ R 1 h0 ((aN (nums log)).take k)=(h,none)
 len:k≤(aN (nums log)).length
 left:(aN (nums log)).drop k=if whole then nums line::aN (nums rest)else[]
theorem je.begin (R:ByteArray→Sh)(log:ByteArray)(h0:HS){line rest:ByteArray}{whole:Bool}(hc:aN (nums log)=if whole then nums line::aN (nums rest)else[]):je R log h0 0 h0 line rest whole:=⟨rfl,Nat.zero_le _,hc⟩
theorem je.get {R:ByteArray→Sh}{log:ByteArray}{h0 h:HS}{k:Nat}{line rest:ByteArray}(f:je R log h0 k h line rest true):k<(aN (nums log)).length∧(aN (nums log))[k]?=some (nums line)∧(aN (nums log)).drop (k+1)=aN (nums rest):=by
 have h1:=f.left;rw[if_pos rfl]at h1;have hlt:k<(aN (nums log)).length:=by
  rcases Nat.lt_or_ge k (aN (nums log)).length with c|c
  ·exact c
  ·rw[List.drop_of_length_le c]at h1;cases h1
 rw[List.drop_eq_getElem_cons hlt]at h1;injection h1 with e1 e2
 exact⟨hlt,by rw[List.getElem?_eq_getElem hlt,e1],e2⟩
theorem je.last {R:ByteArray→Sh}{log:ByteArray}{h0 h:HS}{k:Nat}{line rest:ByteArray}(f:je R log h0 k h line rest false):aZ R 1 h0 (aN (nums log))=(h,none):=by
 have h1:=f.left;rw[if_neg (by decide)]at h1
 have:(aN (nums log)).length≤k:=List.drop_eq_nil_iff.1 h1
 have h2:=f.done;rw[List.take_of_length_le this]at h2;exact h2
theorem je.bad {R:ByteArray→Sh}{log:ByteArray}{h0 h:HS}{k:Nat}{line rest:ByteArray}(f:je R log h0 k h line rest true)(hr:dJ (nums line)=none):aZ R 1 h0 (aN (nums log))=(h,some (k+1)):=by
 obtain⟨hlt,_,_⟩:=f.get
 have hs:aN (nums log)=(aN (nums log)).take k++(aN (nums log)).drop k:=(List.take_append_drop _ _).symm;rw[hs,kI R _ _ _ _ _ f.done,f.left,if_pos rfl,ew,hr,List.length_take,Nat.min_eq_left f.len];dsimp only;rw[Nat.add_comm]
theorem je.wrong {R:ByteArray→Sh}{log:ByteArray}{h0 h:HS}{k:Nat}{line rest:ByteArray}(f:je R log h0 k h line rest true){b:Bool}{s:ByteArray}(hr:dJ (nums line)=some (b,s))(hn:(aD R h s).2≠letter b):aZ R 1 h0 (aN (nums log))=((aD R h s).1,some (k+1)):=by
 have hs:aN (nums log)=(aN (nums log)).take k++(aN (nums log)).drop k:=(List.take_append_drop _ _).symm;rw[hs,kI R _ _ _ _ _ f.done,f.left,if_pos rfl,ew,hr,List.length_take,Nat.min_eq_left f.len];dsimp only;rw[if_neg hn,Nat.add_comm]
theorem je.next {R:ByteArray→Sh}{log:ByteArray}{h0 h:HS}{k:Nat}{line rest:ByteArray}(f:je R log h0 k h line rest true){b:Bool}{s:ByteArray}(hr:dJ (nums line)=some (b,s))(hn:(aD R h s).2=letter b)
  {line' rest':ByteArray}{whole':Bool}(hc:aN (nums rest)=if whole' then nums line'::aN (nums rest')else[]):je R log h0 (k+1) (aD R h s).1 line' rest' whole':=by
 obtain⟨hlt,hg,hd⟩:=f.get
 refine⟨?_,by omega,by rw[hd];exact hc⟩
 have hx:(aN (nums log))[k]=nums line:=by
  rw[List.getElem?_eq_getElem hlt]at hg;injection hg
 rw[List.take_succ_eq_append_getElem hlt,hx,kI R _ _ _ _ _ f.done,ew,hr];dsimp only;rw[if_pos hn];rfl
theorem je.inv {R:ByteArray→Sh}{log:ByteArray}{aa:Int}{h:HS}{k:Nat}{line rest:ByteArray}{whole:Bool}(f:je R log (HS.zero aa) k h line rest whole)(hR:sO R):cE R h∧h.tries=k∧h.az.length=k∧h.hangs=0:=by
 obtain⟨l,e1,e2,e3⟩:=lV R _ _ _ _ f.done
 have hk:l.length=k:=by
  have:=congrArg List.length e1
  rw[List.length_take,List.length_map,Nat.min_eq_left f.len]at this;omega
 have hh:=(qM R l _ _ e3).1
 refine⟨cE.iI hR l _ _ (lS R aa) e2 e3,?_,?_,?_⟩
 ·rw[lD l _ _ e3,hk];show 0+k=k;omega
 ·rw[hh];show([]++l).length=k;rw[List.nil_append,hk]
 ·have hz:∀(l:List (Bool×ByteArray)) (a b:HS),gJ R a l=some b→a.hangs=0→b.hangs=0:=by
   intro l;induction l with
   |nil=>intro a b e h0;cases e;exact h0
   |cons x l ih=>
    intro a b e h0;unfold gJ at e;split at e
    ·rename_i hl
     refine ih _ _ e ?_;unfold aD at hl⊢;split
     ·split<;>exact h0
     ·split
      ·rename_i h1 h2
       rw[if_neg h1,if_pos h2]at hl;exact absurd (show(0:Int)=letter x.1 from hl) (by unfold letter;split<;>omega)
      ·split<;>exact h0
    ·cases e
  exact hz l _ _ e3 rfl
theorem ng:∀a b:List Int,a.length%2=0→bA (a++b)=(bA a).bind fun x=>(bA b).map fun y=>x++y
 |[],b,_=>by
  show bA b=(bA b).map fun y=>y
  simp
 |[_],_,h=>by simp at h
 |x::y::a,b,h=>by
  have ih:=ng a b (by simp at h;omega);have e1:∀t:List Int,bA (x::y::t)=match gi x,gi y,bA t with
   |some p,some q,some r=>some ((16*p+q)::r)
   |_,_,_=>none:=fun _=>rfl
  show bA (x::y::(a++b))=_;rw[e1,e1,ih]
  cases gi x with
  |none=>rfl
  |some p=>
   cases gi y with
   |none=>rfl
   |some q=>
    cases bA a with
    |none=>rfl
    |some u=>
     cases bA b with
     |none=>rfl
     |some v=>rfl
def eH (c:Int):Int:=(gi c).getD (-1)
theorem Ez:∀k:Fin 256,Lib.indexByte [48,49,50,51,52,53,54,55,56,57,97,98,99,100,101,102] (UInt8.ofNat k)=eH ((k:Nat):Int):=by decide+kernel
theorem lY (c:Int):eH c<0↔gi c=none:=by
 unfold eH
 cases h:gi c with
 |none=>simp
 |some x=>
  have:=(lU h).2.1
  simp
  omega
theorem jf {c:Int}(h:¬eH c<0):gi c=some (eH c)∧0≤eH c∧eH c≤15:=by
 unfold eH at h⊢
 cases e:gi c with
 |none=>rw [e]at h;simp at h
 |some x=>
  obtain⟨_,h1,h2⟩:=lU e
  exact⟨rfl,h1,h2⟩
theorem KI:∀a:Fin 16,∀b:Fin 16,bits .or .i64 (IntKind.i64.wrap (((a:Nat):Int)*16)) ((b:Nat):Int)=16*((a:Nat):Int)+((b:Nat):Int):=by decide+kernel
def pZ (l:List Int)(n:Nat):Option (List Int):=bA (l.take (2*n))
theorem wP (l:List Int)(n:Nat)(h:2*n+1<l.length):pZ l (n+1)=(pZ l n).bind fun r=>match gi (l.getD (2*n) 0),gi (l.getD (2*n+1) 0)with
  |some x,some y=>some (r++[16*x+y])
  |_,_=>none:=by
 have e:l.take (2*(n+1))=l.take (2*n)++[l.getD (2*n) 0,l.getD (2*n+1) 0]:=by
  rw[show 2*(n+1)=2*n+1+1 by omega,List.take_succ_eq_append_getElem h,List.take_succ_eq_append_getElem (show 2*n<l.length by omega)];rw[List.getD_eq_getElem?_getD,List.getD_eq_getElem?_getD,List.getElem?_eq_getElem h,List.getElem?_eq_getElem (show 2*n<l.length by omega),List.append_assoc];rfl
 unfold pZ;rw[e,ng _ _ (by rw[List.length_take];omega)];congr 1
 funext r
 generalize l.getD (2*n) 0=a;generalize l.getD (2*n+1) 0=b
 show(match gi a,gi b,bA []with|some x,some y,some r=>some ((16*x+y)::r)|_,_,_=>none:Option (List Int)).map _=_
 cases gi a with
 |none=>rfl
 |some x=>
  cases gi b with
  |none=>rfl
  |some y=>rfl
theorem uA (l:List Int)(n:Nat)(h:pZ l n=none)(hn:2*n≤l.length):bA l=none:=by
 have e:l=l.take (2*n)++l.drop (2*n):=(List.take_append_drop _ _).symm;rw[e,ng _ _ (by rw[List.length_take,Nat.min_eq_left hn];omega)]
 have:bA (l.take (2*n))=none:=h
 rw[this];rfl
theorem Ay (l:List Int):∀n r,2*n≤l.length→pZ l n=some r→r.length=n∧iL r:=by
 intro n r hn h
 obtain⟨_,h2,h3⟩:=mX _ _ h
 rw[List.length_take,Nat.min_eq_left hn]at h3
 exact⟨by omega,h2⟩
theorem qY (w:World)(c:Int)(h0:0≤c)(h1:c≤255):
  Calls Tryz.prog 127 #[.int .u8 c] w fun e w'=>e=.returned (.int .i64 (eH c))∧w'=w:=by
 have e:eH c=if 48≤c∧c≤57 then c-48 else if 97≤c∧c≤102 then c-87 else -1:=by
  unfold eH gi;split
  ·rfl
  ·split<;>rfl
 rw[e];by_cases a:48≤c∧c≤57
 ·rw[if_pos a]
  obtain⟨a1,a2⟩:=a
  go_in;go_wp2;go_ret
  exact⟨by go_num,rfl⟩
 ·rw[if_neg a];by_cases b:97≤c∧c≤102
  ·rw[if_pos b]
   obtain⟨b1,b2⟩:=b
   have a2:¬c≤57:=(by omega);have a1:48≤c:=(by omega);go_in;go_wp2;go_ret
   exact⟨by go_num,rfl⟩
  ·rw[if_neg b];have q1:(decide (48≤c)&&decide (c≤57))=false:=by simp;omega
   have q2:(decide (97≤c)&&decide (c≤102))=false:=by simp;omega
   go_in;by_cases c1:48≤c<;>by_cases c2:c≤57<;>by_cases c3:97≤c<;>by_cases c4:c≤102<;>try omega
   all_goals
    go_wp2;go_ret
    exact⟨rfl,rfl⟩
theorem uB (w:World)(n:Nat)(hn:n≤24):
  Calls Tryz.prog 89 #[.int .i64 (n:Nat)] w fun e w'=>e=.returned (.int .i64 (gz n:Nat))∧w'=w:=by
 unfold gz;by_cases h0:n=0
 ·subst h0;go_in;go_wp2;go_ret
  exact⟨rfl,rfl⟩
 ·rw[if_neg h0];have q0:((n:Int)==0)=false:=by rw[beq_eq_false_iff_ne];omega
  by_cases h1:n<24
  ·rw[if_pos h1];have q1:(n:Int)<24:=(by omega);go_in;go_wp2;go_ret
   exact⟨by go_num,rfl⟩
  ·rw[if_neg h1];have q1:¬(n:Int)<24:=(by omega);go_in;go_wp2;go_ret
   exact⟨by go_num,rfl⟩
theorem Az:∀k:Fin 16,(⟨#[48,49,50,51,52,53,54,55,56,57,97,98,99,100,101,102]⟩:ByteArray).extract k (k+1)=strOfNums [oB ((k:Nat):Int)]:=by decide+kernel
theorem wQ:∀a b:List Int,ei (a++b)=ei a++ei b
 |[],_=>rfl
 |x::a,b=>by simp[ei,wQ a b]
theorem nN:∀l:List Int,iL l→iL (ei l)
 |[],_=>fun x hx=>by simp[ei]at hx
 |x::l,h=>by
  have hx:=h x (by simp);have hd:∀n:Int,0≤n→n≤15→0≤oB n∧oB n≤255:=fun n h0 h1=>by
   obtain⟨k,rfl⟩:∃k:Nat,n=k:=⟨n.toNat,by omega⟩
   have:∀k:Fin 16,0≤oB ((k:Nat):Int)∧oB ((k:Nat):Int)≤255:=by decide
   exact this ⟨k,by omega⟩
  have ih:=nN l (fun y hy=>h y (by simp[hy]));intro y hy;simp only[ei,List.mem_cons]at hy;rcases hy with rfl|rfl|hy
  ·exact hd _ (by omega) (by omega)
  ·exact hd _ (by omega) (by omega)
  ·exact ih y hy
theorem EA (s:ByteArray)(k a b:Nat)(hk:k<s.size)(ha:a<16)(hb:b<16)(hx:(nums s).getD k 0=16*(a:Int)+b):
  strOfNums (ei ((nums s).take k))++(⟨#[48,49,50,51,52,53,54,55,56,57,97,98,99,100,101,102]⟩:ByteArray).extract a (a+1)++(⟨#[48,49,50,51,52,53,54,55,56,57,97,98,99,100,101,102]⟩:ByteArray).extract b (b+1)=strOfNums (ei ((nums s).take (k+1))):=by
 have h1:=Az ⟨a,ha⟩;have h2:=Az ⟨b,hb⟩;dsimp only at h1 h2;rw[h1,h2];have hl:k<(nums s).length:=by rw[af];exact hk
 have e:(nums s).take (k+1)=(nums s).take k++[16*(a:Int)+b]:=by
  rw[List.take_add_one,←hx,List.getD_eq_getElem?_getD,List.getElem?_eq_getElem hl];rfl
 have hb1:=bt s;rw[e,wQ];apply eX;have hd:∀k:Fin 16,0≤oB ((k:Nat):Int)∧oB ((k:Nat):Int)≤255:=by decide
 rw[bN,bN,bz (nN _ (hb1.take k)),bz (fE (hd ⟨a,ha⟩).1 (hd ⟨a,ha⟩).2),bz (fE (hd ⟨b,hb⟩).1 (hd ⟨b,hb⟩).2)];rw[bz]
 ·simp only[ei];rw[show(16*(a:Int)+b)/16=a by omega,show(16*(a:Int)+b)%16=b by omega]
  simp
 ·refine(nN _ (hb1.take k)).app (nN _ (fE (by omega) (by omega)))
theorem wR (w:World)(s:ByteArray)(hs:s.size≤24):
  Calls Tryz.prog 124 #[.string s] w fun e w'=>e=.returned (.string (strOfNums (ei (nums s))))∧Below w.heap.size w w':=by
 go_in;go_wp2_with fail
 go_loopw [4,5,6,7] (fun out i _ _ wr=>∃k:Nat,k≤s.size∧i=.int .i64 k∧out=.string (strOfNums (ei ((nums s).take k)))∧Below w.heap.size w wr) (fun _ i _ _ _=>s.size-(intOf i).toNat)
 case atStart=>exact ⟨0,by omega,rfl,rfl,Below.refl _ _⟩
 case round=>
  obtain⟨k,hk,rfl,rfl,B⟩:=hrel
  by_cases hlt:k<s.size
  ·have hi1:(k:Int)<(s.size:Int):=(by omega);have hidx:=jA s k hlt;have hxb:=(bt s).at k
   obtain⟨x,hx⟩:∃x,(nums s).getD k 0=x:=⟨_,rfl⟩
   rw[hx]at hidx hxb
   obtain⟨a,ha⟩:∃a:Nat,x/16=a:=⟨(x/16).toNat,by omega⟩
   obtain⟨b,hb⟩:∃b:Nat,x%16=b:=⟨(x%16).toNat,by omega⟩
   have g1:IntKind.i64.wrap (x.tdiv 16)=(a:Int):=by rw[Int.tdiv_eq_ediv_of_nonneg hxb.1,ha,IntKind.wrap_i64];omega
   have g2:x.tmod 16=(b:Int):=(by rw[Int.tmod_eq_emod_of_nonneg hxb.1,hb]);have ha1:(a:Int)+1≤16:=(by omega);have hb1:(b:Int)+1≤16:=(by omega);have ta:((a:Int)+1).toNat=a+1:=(by omega);have tb:((b:Int)+1).toNat=b+1:=(by omega);have HN:Hid _:=EA s k a b hlt (by omega) (by omega) (by omega);have HB:=hid B;have hma:min (a+1) 16=a+1:=(by omega);have hmb:min (b+1) 16=b+1:=(by omega);have ho:(strOfNums (ei ((nums s).take k))).size≤48:=by rw[eZ,jw,List.length_take,af];omega
   clear B hx;generalize strOfNums (ei ((nums s).take k))=o at*;go_wp2_with fail
   go_region
   all_goals
    go_wp2_with fail
    go_roundw
    case rel=>exact ⟨k+1,by omega,by go_num,by rw[←HN.out],HB.out.drew⟩
    case measure=>simp [intOf];omega
  ·obtain rfl:k=s.size:=by omega
   have hnn:¬(s.size:Int)<(s.size:Int):=(by omega);have e:(nums s).take s.size=nums s:=List.take_of_length_le (by rw[af];exact Nat.le_refl _);rw[e];have HB:=hid B;clear B;go_wp2_with fail
   go_ret
   exact⟨rfl,HB.out⟩
def jg (s:ByteArray):Option ByteArray:=if s.size%2=0∧s.size≤48 then(bA (nums s)).map strOfNums else none
theorem wS (W:World)(b:Int):(convert 39 9 (.slice (some ⟨W.heap.size,0,none⟩) 1 1)).run Tryz.prog (W.alloc (.cells #[.int .u8 b] 5))=.ok (.string (strOfNums [b])) (W.alloc (.cells #[.int .u8 b] 5)):=
 run_convert_bytes_arg _ 39 5 Tryz.underlying39 Tryz.underlying5 W.heap.size 0 1 1 [b] rfl (fun j hj=>by
  have e:(W.alloc (.cells #[.int .u8 b] 5)).cell? ⟨W.heap.size,0+j,none⟩=#[Value.int .u8 b][0+j]?:=World.cell?_alloc_new W #[.int .u8 b] 5 (0+j);rw[e];match j,hj with
  |0,_=>rfl
  |j+1,hj=>simp at hj) 9 Tryz.underlying9
theorem za (w:World)(s:ByteArray)(hsz:s.size≤9223372036854775807):
  Calls Tryz.prog 84 #[.string s] w fun e w'=>e=.returned (.tuple #[.string ((jg s).getD ⟨#[]⟩),.bool (jg s).isSome])∧Below w.heap.size w w':=by
 by_cases h2:s.size%2=0
 ·by_cases h48:s.size≤48
  ·have hu:jg s=(bA (nums s)).map strOfNums:=if_pos ⟨h2,h48⟩
   obtain⟨dl,hdl⟩:∃dl,bA (nums s)=dl:=⟨_,rfl⟩
   rw[hu,hdl];have HDL:Hid (bA (nums s)=dl):=hdl;have q2:(s.size:Int).tmod 2=0:=by rw[Int.tmod_eq_emod_of_nonneg (by omega)];omega
   have q48:¬(48:Int)<(s.size:Int):=(by omega);have hln:=af s;have HBY:Hid (iL (nums s)):=bt s;clear hu hdl;go_in;go_wp2_with fail
   go_loopw [4,5,6,7] (fun out i _ _ wr=>∃(k j:Nat) (r:List Int),j=2*k∧j≤s.size∧i=.int .i64 j∧pZ (nums s) k=some r∧out=.string (strOfNums r)∧Below w.heap.size w wr) (fun _ i _ _ _=>s.size-(intOf i).toNat)
   case atStart=>exact ⟨0,0,[],rfl,by omega,rfl,rfl,rfl,Below.refl _ _⟩
   case round=>
    obtain⟨k,j,r,hj,hjs,rfl,hd,rfl,B⟩:=hrel
    have hrl:=Ay (nums s) k r (by omega) hd;by_cases hlt:j<s.size
    ·have hj1:j+1<s.size:=(by omega);have hi0:(j:Int)<(s.size:Int):=(by omega);have hi1:(j:Int)+1<(s.size:Int):=(by omega);have hx0:=jA s j hlt;have hx1:∀W,(Instr.index 9 (.string s) (.int .i64 ((j:Int)+1))).run Tryz.prog W=.ok (.int .u8 ((nums s).getD (j+1) 0)) W:=jA s (j+1) hj1;have HN:=wP (nums s) k (by omega);rw[hd,←hj]at HN;have b0:=HBY.out.at j;have b1:=HBY.out.at (j+1);have HD0:Hid (∀W,Calls Tryz.prog 127 #[.int .u8 ((nums s).getD j 0)] W fun e w'=>e=.returned (.int .i64 (eH ((nums s).getD j 0)))∧w'=W):=fun W=>qY W _ b0.1 b0.2
     have HD1:Hid (∀W,Calls Tryz.prog 127 #[.int .u8 ((nums s).getD (j+1) 0)] W fun e w'=>e=.returned (.int .i64 (eH ((nums s).getD (j+1) 0)))∧w'=W):=fun W=>qY W _ b1.1 b1.2
     have HBD:Hid (pZ (nums s) (k+1)=none→dl=none):=fun e=>HDL.out.symm.trans (uA (nums s) (k+1) e (by omega))
     have HB:Hid (Below w.heap.size w wr):=B
     generalize(nums s).getD j 0=c0 at*
     generalize(nums s).getD (j+1) 0=c1 at*
     have n0:=lY c0;have n1:=lY c1;have p0:=jf (c:=c0);have p1:=jf (c:=c1);generalize eH c0=a at*;generalize eH c1=b at*;have HNN:Hid _:=HN;have hro:(strOfNums r).size≤24:=by rw[eZ];omega
     have HJ:Hid (j=2*k):=hj;have N0:Hid _:=n0;have N1:Hid _:=n1;have P0:Hid _:=p0;have P1:Hid _:=p1;clear B HN hd hj n0 n1 p0 p1;by_cases ha:a<0
     ·obtain rfl:dl=none:=HBD.out (by rw[HNN.out,N0.out.1 ha];rfl);go_wp2_with fail
      refine(HD0.out _).mono ?_
      rintro e w2 ⟨rfl,hw2⟩;obtain rfl:=hw2.symm;go_wp2_with fail
      refine(HD1.out _).mono ?_
      rintro e w2 ⟨rfl,hw2⟩;obtain rfl:=hw2.symm;go_wp2;go_ret2
      exact⟨rfl,HB.out⟩
     ·obtain⟨ha1,ha2,ha3⟩:=P0.out ha
      by_cases hb:b<0
      ·obtain rfl:dl=none:=HBD.out (by rw[HNN.out,N1.out.1 hb,ha1];rfl);go_wp2_with fail
       refine(HD0.out _).mono ?_
       rintro e w2 ⟨rfl,hw2⟩;obtain rfl:=hw2.symm;go_wp2_with fail
       refine(HD1.out _).mono ?_
       rintro e w2 ⟨rfl,hw2⟩;obtain rfl:=hw2.symm;go_wp2;go_ret2
       exact⟨rfl,HB.out⟩
      ·obtain⟨hb1,hb2,hb3⟩:=P1.out hb
       have HX:Hid (pZ (nums s) (k+1)=some (r++[16*a+b])):=by show _=_;rw[HNN.out,ha1,hb1];rfl
       have hcv:=wS wr (16*a+b);have hts:(strOfNums [16*a+b]).size=1:=rfl;have HST:Hid (strOfNums r++strOfNums [16*a+b]=strOfNums (r++[16*a+b])):=by
        show _=_;apply eX;rw[bN,bz hrl.2,bz (fE (by omega) (by omega)),bz (hrl.2.app (fE (by omega) (by omega)))]
       generalize strOfNums [16*a+b]=t1 at*;generalize strOfNums r=o at*;go_wp2_with fail
       refine(HD0.out _).mono ?_
       rintro e w2 ⟨rfl,hw2⟩;obtain rfl:=hw2.symm;go_wp2_with fail
       refine(HD1.out _).mono ?_
       rintro e w2 ⟨rfl,hw2⟩;obtain rfl:=hw2.symm;go_wp2_with fail
       go_roundw
       case rel=>exact ⟨k+1,j+2,r++[16*a+b],by have:=HJ.out;omega,by omega,by go_num,HX.out,by rw[HST.out],HB.out.alloc HB.out.size _⟩
       case measure=>simp [intOf];omega
    ·have hjn:j=s.size:=(by omega);have hnn:¬(j:Int)<(s.size:Int):=(by omega);obtain rfl:dl=some r:=by
      unfold pZ at hd;rw[List.take_of_length_le (by omega)]at hd;exact HDL.out.symm.trans hd
     have HB:Hid (Below w.heap.size w wr):=B;clear B hd;go_wp2;go_ret2
     exact⟨rfl,HB.out⟩
  ·have hu:jg s=none:=if_neg (fun c=>h48 c.2);rw[hu];have q2:(s.size:Int).tmod 2=0:=by rw[Int.tmod_eq_emod_of_nonneg (by omega)];omega
   have q48:(48:Int)<(s.size:Int):=(by omega);go_in;go_wp2;go_ret2
   exact⟨rfl,Below.refl _ _⟩
 ·have hu:jg s=none:=if_neg (fun c=>h2 c.1);rw[hu];have q2:(s.size:Int).tmod 2=1:=by rw[Int.tmod_eq_emod_of_nonneg (by omega)];omega
  go_in;go_wp2;go_ret2
  exact⟨rfl,Below.refl _ _⟩
def lF (m:Nat):List Int:=if h:m=0 then[]else(48+((m%10:Nat):Int))::lF (m/10)
termination_by m
decreasing_by omega
def th (m:Nat):ByteArray:=strOfNums ([109,97,114,107]++lF m)
theorem Cu {m:Nat}(h:0<m):lF m=(48+((m%10:Nat):Int))::lF (m/10):=by
 rw[lF,dif_neg (by omega)]
theorem zb:lF 0=[]:=by rw[lF,dif_pos rfl]
theorem tj (w:World)(m:Nat)(hm:m≤4611686018427387904):Calls Tryz.prog 19 #[.int .i64 (m:Nat)] w fun e w'=>e=.returned (.string (th m))∧Below w.heap.size w w':=by
 go_in;go_wp2_with fail
 go_loopw [0,3] (fun n s wr=>∃(q:Nat) (acc:List Int),n=.int .i64 q∧s=.string (strOfNums acc)∧iL acc∧acc++lF q=[109,97,114,107]++lF m∧acc.length+q≤m+4∧Below w.heap.size w wr) (fun n _ _=>(intOf n).toNat)
 case atStart=>exact ⟨m,[109,97,114,107],rfl,rfl,by intro x hx;simp at hx;omega,rfl,by simp;omega,Below.refl _ _⟩
 case round=>
  obtain⟨q,acc,rfl,rfl,hby,he,hl,B⟩:=hrel
  by_cases hq:0<q
  ·have hiq:(0:Int)<(q:Int):=by omega
   obtain⟨x,hx⟩:∃x:Nat,q%10=x:=⟨_,rfl⟩
   obtain⟨y,hy⟩:∃y:Nat,q/10=y:=⟨_,rfl⟩
   have g1:(q:Int).tmod 10=(x:Int):=by rw[Int.tmod_eq_emod_of_nonneg (by omega)];omega
   have g2:IntKind.i64.wrap ((q:Int).tdiv 10)=(y:Int):=by rw[Int.tdiv_eq_ediv_of_nonneg (by omega),IntKind.wrap_i64];omega
   have hxl:x<10:=(by omega);have hcv:=wS wr (48+(x:Int));have hts:(strOfNums [48+(x:Int)]).size=1:=rfl;have hbx:iL [48+(x:Int)]:=fE (by omega) (by omega);have HST:Hid (strOfNums acc++strOfNums [48+(x:Int)]=strOfNums (acc++[48+(x:Int)])):=by
    show _=_;apply eX;rw[bN,bz hby,bz hbx,bz (hby.app hbx)]
   have hsz:(strOfNums acc).size≤4611686018427387908:=by rw[eZ];omega
   have HR:Hid (iL (acc++[48+(x:Int)])∧(acc++[48+(x:Int)])++lF y=[109,97,114,107]++lF m∧(acc++[48+(x:Int)]).length+y≤m+4):=⟨hby.app hbx,by rw[←he,Cu hq,hx,hy,List.append_assoc];rfl,by simp;omega⟩;have HB:=hid B;have HM:Hid (y<q∧(q:Int)/10=(y:Int)):=⟨by omega,by omega⟩;clear B he hby hbx hx hy;generalize strOfNums [48+(x:Int)]=t1 at*;generalize strOfNums acc=o at*;go_wp2_with fail
   go_roundw
   case rel=>exact ⟨y,acc++[48+(x:Int)],by rw[HM.out.2],by rw[HST.out],HR.out.1,HR.out.2.1,HR.out.2.2,HB.out.alloc HB.out.size _⟩
   case measure=>have:=HM.out.1;simp[intOf];omega
  ·obtain rfl:q=0:=by omega
   have HX:Hid (strOfNums acc=th m):=by
    rw[zb,List.append_nil]at he;show _=_;rw[he];rfl
   have HB:=hid B;clear B he hby
   go_wp2;go_ret
   exact⟨by rw[HX.out]<;>rfl,HB.out⟩
end Go.Proofs.YtmpgjkhchfcjlaaGreatDoor
