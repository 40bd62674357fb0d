import Derived.Test.YtmpgjkhchfcjlaaGreatDoorM10
import Derived.Lib.IndexBytes
namespace Go.Proofs.YtmpgjkhchfcjlaaGreatDoor
open Go.RowKit
set_option maxHeartbeats 2000000
set_option maxRecDepth 100000
theorem cz.alloc {M:Nat}{w:World}{vc vs:Value}{inp:ByteArray}{ρ:RR}(h:cz M w vc vs inp ρ)(o:Obj):cz M (w.alloc o) vc vs inp ρ where
 cell:=fun j hj=>(World.cell?_alloc_past _ _ _ h.jt).trans (h.cell j hj)
 thaw:=fun j=>(World.frozen?_of_block (w:=w) (a:=⟨M,j,none⟩) (Below.heap_alloc w _ M h.jt)).trans (h.thaw j)
 row:=by
  obtain⟨p,cap,hv,hrm,hc⟩:=h.row
  refine⟨p,cap,hv,hrm,fun i x hx=> ?_⟩
  obtain⟨g,hp,hg,hcell⟩:=hc i x hx
  exact⟨g,hp,hg,(World.cell?_alloc_past _ _ _ (World.block_lt_of_cell? w ⟨g,i,none⟩ hcell)).trans hcell⟩
theorem Bz (M:Nat)(w:World)(vc vs:Value)(inp:ByteArray)(ρ:RR)(a b k:Int)(h:cz M w vc vs inp ρ)(a0:0≤a)(a1:a≤65535)(hs:ρ.out.size≤100):
  Calls Tryz.prog 154 #[.pointer (some ⟨M,0,none⟩),.int .u8 18,.int .i64 a,.int .i64 b,.int .i64 k] w (fI M w vc inp {ρ with out:=ρ.out++strOfNums [a%256]}):=by
 have GV:=h.cell 89 (by omega);have e89:cQ vc vs inp ρ 89=.string ρ.out:=rfl;rw[e89]at GV;have f89:=h.thaw 89;have hM:=h.jt;have hconv:(convert 39 9 (.slice (some ⟨w.heap.size,0,none⟩) 1 1)).run Tryz.prog (w.alloc (.cells #[.int .u8 (a%256)] 5)).drew=.ok (.string (strOfNums [a%256])) (w.alloc (.cells #[.int .u8 (a%256)] 5)).drew:=by
  refine run_convert_bytes_arg _ 39 5 Tryz.underlying39 Tryz.underlying5 w.heap.size 0 1 1 [a%256] rfl (fun i hi=> ?_) 9 Tryz.underlying9
  have:i=0:=by simpa using hi
  subst this;exact cell_one_new w (.int .u8 (a%256)) 5 0 _ rfl
 have R:cz M ((w.setCell ⟨M,89,none⟩ (.string (ρ.out++strOfNums [a%256]))).alloc (.cells #[.int .u8 (a%256)] 5)) vc vs inp {ρ with out:=ρ.out++strOfNums [a%256]}:=(h.JG _).alloc _;have K:Kept w.heap.size M w ((w.setCell ⟨M,89,none⟩ (.string (ρ.out++strOfNums [a%256]))).alloc (.cells #[.int .u8 (a%256)] 5)):=(Kept.set _ _ _ _ _).trans (Kept.alloc _ (by simp) _);have hone:(strOfNums [a%256]).size=1:=rfl
 obtain⟨s,hss⟩:∃s,strOfNums [a%256]=s:=⟨_,rfl⟩
 rw[hss]at hconv R K hone⊢;have hcat:(ρ.out++s).size=ρ.out.size+1:=by rw[ByteArray.size_append,hone]
 have hsum:ρ.out.size+s.size≤101:=by omega
 clear e89 h hss;go_in;go_wp2_with fail
 go_region
 all_goals
  go_wp2_with fail
  go_end0
  exact⟨rfl,⟨_,R.same rfl⟩,⟨K.os,K.tape,K.output,K.size,K.block⟩⟩
def sK (inp:ByteArray)(ρ:RR)(kk:Nat)(a b k:Int):RR:=
 match kk with
 |1=>{ρ with stack:=ρ.stack++[k]}
 |2=>if h:ρ.read.toNat<inp.size then{ρ with read:=(ρ.read.toNat:Int)+1,stack:=ρ.stack++[((inp[ρ.read.toNat]'h).toNat:Int)]}else{ρ with stack:=ρ.stack++[256]}
 |3=>{ρ with stack:=ρ.stack++[a]++[a]}
 |5=>{ρ with stack:=ρ.stack++[b]++[a]}
 |6=>{ρ with stack:=ρ.stack++[wk 6 a b]}
 |7=>{ρ with stack:=ρ.stack++[wk 7 a b]}
 |8=>{ρ with stack:=ρ.stack++[wk 8 a b]}
 |9=>{ρ with stack:=ρ.stack++[wk 9 a b]}
 |10=>{ρ with stack:=ρ.stack++[wk 10 a b]}
 |11=>{ρ with stack:=ρ.stack++[wk 11 a b]}
 |12=>{ρ with stack:=ρ.stack++[wk 12 a b]}
 |13=>{ρ with stack:=ρ.stack++[wk 13 a b]}
 |16=>{ρ with stack:=ρ.stack++[ρ.cells k.toNat]}
 |17=>{ρ with cells:=fun i=>if i=k.toNat then a else ρ.cells i}
 |18=>{ρ with out:=ρ.out++strOfNums [a%256]}
 |_=>ρ
theorem BC (M:Nat)(w:World)(vc vs:Value)(inp:ByteArray)(ρ:RR)(kk:Nat)(a b k:Int)(h:cz M w vc vs inp ρ)(hk0:kk≠0)(hk:kk≤18)(hl:ρ.stack.length≤32)
  (a0:0≤a)(a1:a≤65535)(b0:0≤b)(b1:b≤65535)(hd:kk=11→0<b)(hc:kk=16∨kk=17→0≤k∧k<16)(hr0:0≤ρ.read)(hr1:ρ.read≤1000)(ho:ρ.out.size≤100):
  Calls Tryz.prog 154 #[.pointer (some ⟨M,0,none⟩),.int .u8 (kk:Int),.int .i64 a,.int .i64 b,.int .i64 k] w (fI M w vc inp (sK inp ρ kk a b k)):=by
 have hM:=h.jt;match kk,hk0,hk,hd,hc with
 |0,hk0,_,_,_=>exact absurd rfl hk0
 |1,_,_,_,_=>exact yy M w vc vs inp ρ a b k h hM hl
 |2,_,_,_,_=>
  have hr:ρ.read=(ρ.read.toNat:Int):=by omega
  by_cases hs:ρ.read.toNat<inp.size
  ·have:=yA M w vc vs inp ρ a b k ρ.read.toNat h hl hr hs (by omega)
   unfold sK;simp only[dif_pos hs];exact this
  ·have:=By M w vc vs inp ρ a b k ρ.read.toNat h hl hr (by omega)
   unfold sK;simp only[dif_neg hs];exact this
 |3,_,_,_,_=>exact sJ M w vc vs inp ρ 3 a b k h hM hl (Or.inl rfl)
 |4,_,_,_,_=>exact mS M w vc vs inp ρ 4 a b k h (Or.inl rfl)
 |5,_,_,_,_=>exact sJ M w vc vs inp ρ 5 a b k h hM hl (Or.inr rfl)
 |6,_,_,_,_=>exact eU M w vc vs inp ρ 6 a b k h hM hl (by omega) a0 a1 b0 b1 (fun e=>by omega)
 |7,_,_,_,_=>exact eU M w vc vs inp ρ 7 a b k h hM hl (by omega) a0 a1 b0 b1 (fun e=>by omega)
 |8,_,_,_,_=>exact eU M w vc vs inp ρ 8 a b k h hM hl (by omega) a0 a1 b0 b1 (fun e=>by omega)
 |9,_,_,_,_=>exact eU M w vc vs inp ρ 9 a b k h hM hl (by omega) a0 a1 b0 b1 (fun e=>by omega)
 |10,_,_,_,_=>exact eU M w vc vs inp ρ 10 a b k h hM hl (by omega) a0 a1 b0 b1 (fun e=>by omega)
 |11,_,_,hd,_=>exact eU M w vc vs inp ρ 11 a b k h hM hl (by omega) a0 a1 b0 b1 (fun _=>hd rfl)
 |12,_,_,_,_=>exact eU M w vc vs inp ρ 12 a b k h hM hl (by omega) a0 a1 b0 b1 (fun e=>by omega)
 |13,_,_,_,_=>exact eU M w vc vs inp ρ 13 a b k h hM hl (by omega) a0 a1 b0 b1 (fun e=>by omega)
 |14,_,_,_,_=>exact mS M w vc vs inp ρ 14 a b k h (Or.inr (Or.inl rfl))
 |15,_,_,_,_=>exact mS M w vc vs inp ρ 15 a b k h (Or.inr (Or.inr rfl))
 |16,_,_,_,hc=>
  have hkk:=hc (Or.inl rfl)
  have:=yz M w vc vs inp ρ a b k.toNat h hM hl (by omega)
  rw[Int.toNat_of_nonneg hkk.1]at this;exact this
 |17,_,_,_,hc=>
  have hkk:=hc (Or.inr rfl)
  have:=vW M w vc vs inp ρ a b k.toNat h (by omega)
  rw[Int.toNat_of_nonneg hkk.1]at this;exact this
 |18,_,_,_,_=>exact Bz M w vc vs inp ρ a b k h a0 a1 ho
 |k+19,_,hk,_,_=>omega
theorem qI.take {M:Nat}{w:World}{p:Option Addr}{n cap:Nat}{xs:List Int}(h:qI M w (.slice p n cap) xs)(j:Nat)(hj:j≤n):n=xs.length∧Roomy p n cap∧qI M w (.slice p j cap) (xs.take j):=by
 obtain⟨p',cap',hv,hrm,hc⟩:=h
 simp only[Value.slice.injEq]at hv
 obtain⟨rfl,rfl,rfl⟩:=hv
 refine⟨rfl,hrm,p,cap,by rw[List.length_take,Nat.min_eq_left hj],⟨by rw[List.length_take];have:=hrm.1;omega,hrm.2.1,hrm.2.2⟩,fun i x hx=> ?_⟩
 have hi:i<j:=by
  have:=(List.getElem?_eq_some_iff.1 hx).1
  rw[List.length_take]at this;omega
 rw[List.getElem?_take,if_pos hi]at hx;exact hc i x hx
theorem cz.setStack {M:Nat}{w:World}{vc vs vs':Value}{inp:ByteArray}{ρ:RR}{xs:List Int}(h:cz M w vc vs inp ρ)(hr:qI M w vs' xs):cz M (w.setCell ⟨M,3,none⟩ vs') vc vs' inp {ρ with stack:=xs} where
 cell:=by
  intro j hj;by_cases e:j=3
  ·subst e;exact World.cell?_setCell_same _ _ _ (h.cell 3 hj)
  ·rw[World.cell?_setCell_other _ _ _ _ (fun c=>e (by injection c with _ c2 _;exact c2.symm)),h.cell j hj];unfold cQ;simp only[if_neg e]
 thaw:=fun j=>by rw[World.frozen?_setCell];exact h.thaw j
 row:=hr.set 3 vs'
theorem iZ (x:Int):IntKind.u16.wrap x=x%65536:=by
 simp[IntKind.wrap,IntKind.signed,IntKind.bits]
theorem vX (x:Int):IntKind.u8.wrap x=x%256:=by
 simp[IntKind.wrap,IntKind.signed,IntKind.bits]
theorem l9 {x:Int}(h0:0≤x)(h1:x≤65535):IntKind.i64.wrap x=x:=by
 simp[IntKind.wrap,IntKind.signed,IntKind.bits];omega
theorem GX {a:Int}(h0:0≤a)(h1:a≤65535):(BitVec.ofInt 16 a).toNat=a.toNat:=by
 rw[BitVec.toNat_ofInt]
 have:((2:Nat)^16:Nat)=65536:=by decide
 rw[this];omega
theorem GY {a:Int}(h0:0≤a)(h1:a≤65535):(BitVec.ofInt 64 a).toNat=a.toNat:=by
 rw[BitVec.toNat_ofInt]
 have:((2:Nat)^64:Nat)=18446744073709551616:=by decide
 rw[this];omega
theorem yB {a b:Int}(a0:0≤a)(a1:a≤65535)(b0:0≤b)(b1:b≤65535):bits .and .u16 a b=((a.toNat&&&b.toNat:Nat):Int)∧bits .and .i64 a b=((a.toNat&&&b.toNat:Nat):Int)∧(a.toNat&&&b.toNat)<65536:=by
 have h:(a.toNat&&&b.toNat)<2^16:=Nat.and_lt_two_pow _ (by omega);have h':=h
 refine⟨?_,?_,h'⟩
 ·show IntKind.u16.wrap ((BitVec.ofInt 16 a&&&BitVec.ofInt 16 b).toNat:Int)=_;rw[BitVec.toNat_and,GX a0 a1,GX b0 b1,iZ];omega
 ·show IntKind.i64.wrap ((BitVec.ofInt 64 a&&&BitVec.ofInt 64 b).toNat:Int)=_;rw[BitVec.toNat_and,GY a0 a1,GY b0 b1,l9 (by omega) (by omega)]
theorem u9 {a b:Int}(a0:0≤a)(a1:a≤65535)(b0:0≤b)(b1:b≤65535):bits .xor .u16 a b=((a.toNat^^^b.toNat:Nat):Int)∧bits .xor .i64 a b=((a.toNat^^^b.toNat:Nat):Int)∧(a.toNat^^^b.toNat)<65536:=by
 have h:(a.toNat^^^b.toNat)<2^16:=Nat.xor_lt_two_pow (by omega) (by omega);have h':=h
 refine⟨?_,?_,h'⟩
 ·show IntKind.u16.wrap ((BitVec.ofInt 16 a^^^BitVec.ofInt 16 b).toNat:Int)=_;rw[BitVec.toNat_xor,GX a0 a1,GX b0 b1,iZ];omega
 ·show IntKind.i64.wrap ((BitVec.ofInt 64 a^^^BitVec.ofInt 64 b).toNat:Int)=_;rw[BitVec.toNat_xor,GY a0 a1,GY b0 b1,l9 (by omega) (by omega)]
theorem ua {x y:Nat}:x^^^y=0↔x=y:=by
 constructor
 ·intro h
  have:(x^^^y)^^^y=0^^^y:=by rw[h]
  rw[Nat.xor_assoc,Nat.xor_self,Nat.xor_zero,Nat.zero_xor]at this;exact this
 ·intro h;rw[h,Nat.xor_self]
theorem oZ {a b:Int}(a0:0≤a)(a1:a≤65535)(b0:0≤b)(b1:b≤65535):
  IntKind.u16.wrap (a+b)=wk 6 a b∧IntKind.u16.wrap (a+IntKind.u16.wrap (-b))=wk 7 a b∧IntKind.u16.wrap (a*b)=wk 8 a b∧bits .and .u16 a b=wk 9 a b∧bits .xor .u16 a b=wk 10 a b∧
  (0<b→IntKind.u16.wrap (a.tdiv b)=wk 11 a b)∧Gt (decide (bits .xor .u16 a b<1))=wk 12 a b∧Gt (decide (a<b))=wk 13 a b:=by
 refine⟨?_,?_,?_,?_,?_,?_,?_,?_⟩
 ·rw[iZ];rfl
 ·rw[iZ,iZ];show _=(a+65536-b)%65536;omega
 ·rw[iZ];rfl
 ·rw[(yB a0 a1 b0 b1).1];exact(yB a0 a1 b0 b1).2.1.symm
 ·rw[(u9 a0 a1 b0 b1).1];exact(u9 a0 a1 b0 b1).2.1.symm
 ·intro hb;rw[iZ];show _=a.tdiv b;rw[Int.tdiv_eq_ediv_of_nonneg a0];have h1:=Int.ediv_nonneg a0 b0;have h2:=Int.ediv_le_self b a0;omega
 ·rw[(u9 a0 a1 b0 b1).1];have e:wk 12 a b=if a=b then 1 else 0:=by unfold wk;simp
  rw[e];unfold Gt;by_cases h:a=b
  ·subst h;simp
  ·have hx:a.toNat^^^b.toNat≠0:=fun hx=>h (by have:=ua.1 hx;omega)
   rw[if_neg h,if_neg (by simp;omega)]
 ·have e:wk 13 a b=if a<b then 1 else 0:=by unfold wk;simp
  rw[e];unfold Gt;by_cases h:a<b
  ·simp[h]
  ·simp[h]
theorem p7 {a b:Int}(a0:0≤a)(a1:a≤65535)(b0:0≤b)(b1:b≤65535)(x:Int)(hx:6≤x∧x≤13)(hd:x=11→0<b):0≤wk x a b∧wk x a b≤65535:=by
 have h:x=6∨x=7∨x=8∨x=9∨x=10∨x=11∨x=12∨x=13:=by omega
 rcases h with rfl|rfl|rfl|rfl|rfl|rfl|rfl|rfl
 ·show 0≤(a+b)%65536∧_;exact⟨by omega,by show(a+b)%65536≤_;omega⟩
 ·show 0≤(a+65536-b)%65536∧_;exact⟨by omega,by show(a+65536-b)%65536≤_;omega⟩
 ·show 0≤a*b%65536∧_;exact⟨by omega,by show a*b%65536≤_;omega⟩
 ·have:=yB a0 a1 b0 b1
  rw[show wk 9 a b=bits .and .i64 a b from rfl,this.2.1];omega
 ·have:=u9 a0 a1 b0 b1
  rw[show wk 10 a b=bits .xor .i64 a b from rfl,this.2.1];omega
 ·rw[show wk 11 a b=a.tdiv b from rfl,Int.tdiv_eq_ediv_of_nonneg a0];have h1:=Int.ediv_nonneg a0 b0;have h2:=Int.ediv_le_self b a0;omega
 ·have e:wk 12 a b=if a=b then 1 else 0:=by unfold wk;simp
  rw[e];split<;>omega
 ·have e:wk 13 a b=if a<b then 1 else 0:=by unfold wk;simp
  rw[e];split<;>omega
def kQ (inp:ByteArray)(ρ:RR)(kk:Nat)(k:Int):RR:=
 let q:=ρ.stack.length-aI kk
 let a:=if aI kk=0 then 0 else ρ.stack.getD q 0
 let b:=if aI kk=2 then ρ.stack.getD (q+1) 0 else 0
 if kk=0 then mz {ρ with steps:=ρ.steps+1} 0 0
 else if kk=11∧b=0 then mz {ρ with steps:=ρ.steps+1} 1 1
 else if kk=18∧16≤ρ.out.size then mz {ρ with steps:=ρ.steps+1} 1 4
 else if kk=19 then mz {ρ with steps:=ρ.steps+1} 1 (16+k)
 else{sK inp {ρ with steps:=ρ.steps+1,stack:=ρ.stack.take q} kk a b k with here:=if kk=14∨(kk=15∧a=0)then k else ρ.here+(bp kk:Int)}
def p8 (inp:ByteArray)(ρ:RR)(kk:Nat)(k:Int):RR:=
 if bT ρ.stack.length (aX (kk*3+1)) (aX (kk*3+2))≠0 then mz {ρ with steps:=ρ.steps+1} 1 (bT ρ.stack.length (aX (kk*3+1)) (aX (kk*3+2)))
 else kQ inp ρ kk k
def eV (e:Int)(ρ:RR):RR:=if e= -1 then ρ else{ρ with cnt:=fW ρ.cnt ρ.ah e,ah:=e+1}
def fD (inp:ByteArray)(c aY:Nat→Int)(fuel:Int)(ρ:RR):RR:=
 if(c ρ.here.toNat).toNat=20 then{eV (aY ρ.here.toNat) ρ with here:=ρ.here+2}
 else if fuel≤ρ.steps then mz (eV (aY ρ.here.toNat) ρ) 2 0
 else p8 inp (eV (aY ρ.here.toNat) ρ) (c ρ.here.toNat).toNat (second c ρ.here.toNat)
structure Kz (inp:ByteArray) (ρ:RR) (σ:St):Prop where
 stack:ρ.stack=σ.stack
 cells:ρ.cells=σ.cells
 LH:0≤ρ.read
 LI:ρ.read≤(inp.size:Int)
 input:σ.input=inp.extract ρ.read.toNat inp.size
 here:ρ.here=σ.next
 num:∀x∈σ.stack,0≤x∧x≤65535
 LX:∀i,0≤σ.cells i∧σ.cells i≤65535
structure Rel (inp:ByteArray) (ρ:RR) (τ:RS):Prop where
 alive:τ.σ.ended=false→Kz inp ρ τ.σ
 cnt:ρ.cnt=τ.cnt
 ah:ρ.ah=τ.ah
 kind:ρ.kind=τ.σ.kind
 fault:ρ.fault=τ.σ.fault
 steps:ρ.steps=τ.σ.steps
 out:ρ.out=strOfNums τ.σ.out
 over:ρ.over=τ.σ.ended
 place:τ.σ.ended=true→ρ.place=τ.σ.place
theorem DX {a b:ByteArray}(h:a.data.toList=b.data.toList):a=b:=by
 obtain⟨⟨l⟩⟩:=a
 obtain⟨⟨m⟩⟩:=b
 have:l=m:=h
 rw[this]
theorem Aj (s:ByteArray)(j:Nat):(s.extract j s.size).size=s.size-j:=by
 rw[Lib.size_eq,Lib.extract_to_end,List.length_drop,←Lib.size_eq]
theorem GZ (s:ByteArray)(j:Nat):(s.extract j s.size).extract 1 (s.extract j s.size).size=s.extract (j+1) s.size:=
 DX (by rw[Lib.extract_to_end,Lib.extract_to_end,Lib.extract_to_end,List.drop_drop])
theorem He (s:ByteArray)(j:Nat)(h:j<s.size)(h':0<(s.extract j s.size).size):(s.extract j s.size)[0]'h'=s[j]'h:=by
 have a:=Lib.data_getElem? (s.extract j s.size) 0 h';have b:=Lib.data_getElem? s j h;rw[Lib.extract_to_end,List.getElem?_drop,Nat.add_zero,b]at a
 exact(Option.some.inj a).symm
theorem Ak {s:List Int}(h:∀x∈s,0≤x∧x≤65535)(i:Nat):0≤s.getD i 0∧s.getD i 0≤65535:=by
 rw[List.getD_eq_getElem?_getD]
 cases e:s[i]? with
 |none=>simp
 |some x=>exact h x (List.mem_of_getElem? e)
theorem eG {s t:List Int}{q:Nat}(h:∀x∈s,0≤x∧x≤65535)(ht:∀x∈t,0≤x∧x≤65535):∀x∈s.take q++t,0≤x∧x≤65535:=by
 intro x hx;rcases List.mem_append.1 hx with hx|hx
 ·exact h x (List.mem_of_mem_take hx)
 ·exact ht x hx
theorem fO {x:Int}(h:0≤x∧x≤65535):∀y∈[x],0≤y∧y≤65535:=fun y hy=>by simp at hy;subst hy;exact h
theorem Am {x y:Int}(h:0≤x∧x≤65535)(h':0≤y∧y≤65535):∀z∈[x,y],0≤z∧z≤65535:=fun z hz=>by
 simp at hz;rcases hz with rfl|rfl
 ·exact h
 ·exact h'
theorem Hf (o:List Int)(x:Int):strOfNums (o++[IntKind.u8.wrap x])=strOfNums o++strOfNums [x%256]:=by
 rw[vX];unfold strOfNums;apply ByteArray.ext
 simp
theorem JH {inp:ByteArray}{ρ:RR}{τ:RS}(h:Rel inp ρ τ)(hne:τ.σ.ended=false)(kk:Nat)(n:Int)(hk:kk≤19)(hn0:0≤n)(hn1:n≤255)(ho:τ.σ.out.length≤16):
  Rel inp (kQ inp ρ kk n) {σ:=fT {τ.σ with place:=τ.σ.next,steps:=τ.σ.steps+1,next:=τ.σ.next+aX (kk*3)} kk n,cnt:=τ.cnt,ah:=τ.ah}:=by
 obtain⟨hs,hc,hr0,hr1,hi,hh,hnum,hcel⟩:=h.alive hne
 obtain⟨_,h1,h2,h3,h4,h5,h6,h7,_⟩:=h
 obtain⟨⟨st,ce,inn,ou,nx,ki,fa,pl,sp,en⟩,cn,ah⟩:=τ
 obtain⟨st',ce',rd,he,cn',ah',ki',fa',pl',ou',sp',ov'⟩:=ρ
 simp only at hs hc hr0 hr1 hi hh hnum hcel h1 h2 h3 h4 h5 h6 h7 hne ho;subst hs hc hh h1 h2 h3 h4 h5 h6 h7 hne;have bd:=fun i=>Ak hnum i
 match kk,hk with
 |0,_=>exact ⟨(fun e=>by cases e),rfl,rfl,rfl,rfl,rfl,rfl,rfl,fun _=>rfl⟩
 |1,_=>exact ⟨fun _=>⟨rfl,rfl,hr0,hr1,hi,rfl,eG hnum (fO ⟨hn0,by omega⟩),hcel⟩,rfl,rfl,rfl,rfl,rfl,rfl,rfl,fun e=>by cases e⟩
 |2,_=>
  subst hi;by_cases hlt:rd.toNat<inp.size
  ·have hp:0<(inp.extract rd.toNat inp.size).size:=by rw[Aj];omega
   have hb:=He inp rd.toNat hlt hp;have e1:kQ inp ⟨st',ce',rd,he,cn',ah',ki',fa',pl',strOfNums ou,sp',false⟩ 2 n=⟨st'.take (st'.length-0)++[((inp[rd.toNat]'hlt).toNat:Int)],ce',(rd.toNat:Int)+1,he+1,cn',ah',ki',fa',pl',strOfNums ou,sp'+1,false⟩:=by
    simp[kQ,sK,hlt,aI,bp,aX,aj]
   have e2:fT ⟨st',ce',inp.extract rd.toNat inp.size,ou,he+aX (2*3),ki',fa',he,sp'+1,false⟩ 2 n=⟨st'.take (st'.length-0)++[((inp[rd.toNat]'hlt).toNat:Int)],ce',(inp.extract rd.toNat inp.size).extract 1 (inp.extract rd.toNat inp.size).size,ou,he+1,ki',fa',he,sp'+1,false⟩:=by
    have:fT ⟨st',ce',inp.extract rd.toNat inp.size,ou,he+aX (2*3),ki',fa',he,sp'+1,false⟩ 2 n=if h:0<(inp.extract rd.toNat inp.size).size then⟨st'.take (st'.length-0)++[(((inp.extract rd.toNat inp.size)[0]'h).toNat:Int)],ce',(inp.extract rd.toNat inp.size).extract 1 (inp.extract rd.toNat inp.size).size,ou,he+1,ki',fa',he,sp'+1,false⟩else⟨st'.take (st'.length-0)++[256],ce',inp.extract rd.toNat inp.size,ou,he+1,ki',fa',he,sp'+1,false⟩:=rfl
    rw[this,dif_pos hp,hb]
   rw[e1,e2,GZ];have hbyte:=(inp[rd.toNat]'hlt).toNat_lt;have e3:((rd.toNat:Int)+1).toNat=rd.toNat+1:=by omega
   exact⟨fun _=>⟨rfl,rfl,by show(0:Int)≤(rd.toNat:Int)+1;omega,by show(rd.toNat:Int)+1≤_;omega,by show _=inp.extract ((rd.toNat:Int)+1).toNat inp.size;rw[e3],rfl,eG hnum (fO ⟨by omega,by omega⟩),hcel⟩,rfl,rfl,rfl,rfl,rfl,rfl,rfl,fun e=>by cases e⟩
  ·have hp:¬0<(inp.extract rd.toNat inp.size).size:=by rw[Aj];omega
   have e1:kQ inp ⟨st',ce',rd,he,cn',ah',ki',fa',pl',strOfNums ou,sp',false⟩ 2 n=⟨st'.take (st'.length-0)++[256],ce',rd,he+1,cn',ah',ki',fa',pl',strOfNums ou,sp'+1,false⟩:=by
    simp[kQ,sK,hlt,aI,bp,aX,aj]
   have e2:fT ⟨st',ce',inp.extract rd.toNat inp.size,ou,he+aX (2*3),ki',fa',he,sp'+1,false⟩ 2 n=⟨st'.take (st'.length-0)++[256],ce',inp.extract rd.toNat inp.size,ou,he+1,ki',fa',he,sp'+1,false⟩:=by
    have:fT ⟨st',ce',inp.extract rd.toNat inp.size,ou,he+aX (2*3),ki',fa',he,sp'+1,false⟩ 2 n=if h:0<(inp.extract rd.toNat inp.size).size then⟨st'.take (st'.length-0)++[(((inp.extract rd.toNat inp.size)[0]'h).toNat:Int)],ce',(inp.extract rd.toNat inp.size).extract 1 (inp.extract rd.toNat inp.size).size,ou,he+1,ki',fa',he,sp'+1,false⟩else⟨st'.take (st'.length-0)++[256],ce',inp.extract rd.toNat inp.size,ou,he+1,ki',fa',he,sp'+1,false⟩:=rfl
    rw[this,dif_neg hp]
   rw[e1,e2]
   exact⟨fun _=>⟨rfl,rfl,hr0,hr1,rfl,rfl,eG hnum (fO (by omega)),hcel⟩,rfl,rfl,rfl,rfl,rfl,rfl,rfl,fun e=>by cases e⟩
 |3,_=>exact ⟨fun _=>⟨List.append_assoc _ _ _,rfl,hr0,hr1,hi,rfl,eG hnum (Am (bd _) (bd _)),hcel⟩,rfl,rfl,rfl,rfl,rfl,rfl,rfl,fun e=>by cases e⟩
 |4,_=>exact ⟨fun _=>⟨rfl,rfl,hr0,hr1,hi,rfl,fun x hx=>hnum x (List.mem_of_mem_take hx),hcel⟩,rfl,rfl,rfl,rfl,rfl,rfl,rfl,fun e=>by cases e⟩
 |5,_=>exact ⟨fun _=>⟨List.append_assoc _ _ _,rfl,hr0,hr1,hi,rfl,eG hnum (Am (bd _) (bd _)),hcel⟩,rfl,rfl,rfl,rfl,rfl,rfl,rfl,fun e=>by cases e⟩
 |6,_=>
  have W:=oZ (bd (st'.length-2)).1 (bd (st'.length-2)).2 (bd (st'.length-2+1)).1 (bd (st'.length-2+1)).2;have B:=p7 (bd (st'.length-2)).1 (bd (st'.length-2)).2 (bd (st'.length-2+1)).1 (bd (st'.length-2+1)).2 6 (by omega) (fun e=>by omega)
  exact⟨fun _=>⟨congrArg (fun z=>st'.take (st'.length-2)++[z]) W.1.symm,rfl,hr0,hr1,hi,rfl,eG hnum (fO (by have:=W.1;rw[←this]at B;exact B)),hcel⟩,rfl,rfl,rfl,rfl,rfl,rfl,rfl,fun e=>by cases e⟩
 |7,_=>
  have W:=oZ (bd (st'.length-2)).1 (bd (st'.length-2)).2 (bd (st'.length-2+1)).1 (bd (st'.length-2+1)).2;have B:=p7 (bd (st'.length-2)).1 (bd (st'.length-2)).2 (bd (st'.length-2+1)).1 (bd (st'.length-2+1)).2 7 (by omega) (fun e=>by omega)
  exact⟨fun _=>⟨congrArg (fun z=>st'.take (st'.length-2)++[z]) W.2.1.symm,rfl,hr0,hr1,hi,rfl,eG hnum (fO (by have:=W.2.1;rw[←this]at B;exact B)),hcel⟩,rfl,rfl,rfl,rfl,rfl,rfl,rfl,fun e=>by cases e⟩
 |8,_=>
  have W:=oZ (bd (st'.length-2)).1 (bd (st'.length-2)).2 (bd (st'.length-2+1)).1 (bd (st'.length-2+1)).2;have B:=p7 (bd (st'.length-2)).1 (bd (st'.length-2)).2 (bd (st'.length-2+1)).1 (bd (st'.length-2+1)).2 8 (by omega) (fun e=>by omega)
  exact⟨fun _=>⟨congrArg (fun z=>st'.take (st'.length-2)++[z]) W.2.2.1.symm,rfl,hr0,hr1,hi,rfl,eG hnum (fO (by have:=W.2.2.1;rw[←this]at B;exact B)),hcel⟩,rfl,rfl,rfl,rfl,rfl,rfl,rfl,fun e=>by cases e⟩
 |9,_=>
  have W:=oZ (bd (st'.length-2)).1 (bd (st'.length-2)).2 (bd (st'.length-2+1)).1 (bd (st'.length-2+1)).2;have B:=p7 (bd (st'.length-2)).1 (bd (st'.length-2)).2 (bd (st'.length-2+1)).1 (bd (st'.length-2+1)).2 9 (by omega) (fun e=>by omega)
  exact⟨fun _=>⟨congrArg (fun z=>st'.take (st'.length-2)++[z]) W.2.2.2.1.symm,rfl,hr0,hr1,hi,rfl,eG hnum (fO (by have:=W.2.2.2.1;rw[←this]at B;exact B)),hcel⟩,rfl,rfl,rfl,rfl,rfl,rfl,rfl,fun e=>by cases e⟩
 |10,_=>
  have W:=oZ (bd (st'.length-2)).1 (bd (st'.length-2)).2 (bd (st'.length-2+1)).1 (bd (st'.length-2+1)).2;have B:=p7 (bd (st'.length-2)).1 (bd (st'.length-2)).2 (bd (st'.length-2+1)).1 (bd (st'.length-2+1)).2 10 (by omega) (fun e=>by omega)
  exact⟨fun _=>⟨congrArg (fun z=>st'.take (st'.length-2)++[z]) W.2.2.2.2.1.symm,rfl,hr0,hr1,hi,rfl,eG hnum (fO (by have:=W.2.2.2.2.1;rw[←this]at B;exact B)),hcel⟩,rfl,rfl,rfl,rfl,rfl,rfl,rfl,fun e=>by cases e⟩
 |11,_=>
  by_cases hb0:st'.getD (st'.length-2+1) 0=0
  ·have e1:kQ inp ⟨st',ce',rd,he,cn',ah',ki',fa',pl',strOfNums ou,sp',false⟩ 11 n=mz ⟨st',ce',rd,he,cn',ah',ki',fa',pl',strOfNums ou,sp'+1,false⟩ 1 1:=if_pos (c:=(11:Nat)=11∧st'.getD (st'.length-2+1) 0=0) ⟨rfl,hb0⟩;have e2:fT ⟨st',ce',inn,ou,he+aX (11*3),ki',fa',he,sp'+1,false⟩ 11 n=fin ⟨st'.take (st'.length-2),ce',inn,ou,he+aX (11*3),ki',fa',he,sp'+1,false⟩ 1 1:=if_pos (c:=st'.getD (st'.length-2+1) 0=0) hb0;rw[e1,e2]
   exact⟨(fun e=>by cases e),rfl,rfl,rfl,rfl,rfl,rfl,rfl,fun _=>rfl⟩
  ·have hpos:0<st'.getD (st'.length-2+1) 0:=by have:=(bd (st'.length-2+1)).1;omega
   have W:=oZ (bd (st'.length-2)).1 (bd (st'.length-2)).2 (bd (st'.length-2+1)).1 (bd (st'.length-2+1)).2;have B:=p7 (bd (st'.length-2)).1 (bd (st'.length-2)).2 (bd (st'.length-2+1)).1 (bd (st'.length-2+1)).2 11 (by omega) (fun _=>hpos);have Wd:=W.2.2.2.2.2.1 hpos;have e1:kQ inp ⟨st',ce',rd,he,cn',ah',ki',fa',pl',strOfNums ou,sp',false⟩ 11 n=⟨st'.take (st'.length-2)++[wk 11 (st'.getD (st'.length-2) 0) (st'.getD (st'.length-2+1) 0)],ce',rd,he+1,cn',ah',ki',fa',pl',strOfNums ou,sp'+1,false⟩:=if_neg (c:=(11:Nat)=11∧st'.getD (st'.length-2+1) 0=0) (fun e=>hb0 e.2);have e2:fT ⟨st',ce',inn,ou,he+aX (11*3),ki',fa',he,sp'+1,false⟩ 11 n=⟨st'.take (st'.length-2)++[IntKind.u16.wrap ((st'.getD (st'.length-2) 0).tdiv (st'.getD (st'.length-2+1) 0))],ce',inn,ou,he+aX (11*3),ki',fa',he,sp'+1,false⟩:=if_neg (c:=st'.getD (st'.length-2+1) 0=0) hb0;rw[e1,e2,Wd]
   exact⟨fun _=>⟨rfl,rfl,hr0,hr1,hi,rfl,eG hnum (fO B),hcel⟩,rfl,rfl,rfl,rfl,rfl,rfl,rfl,fun e=>by cases e⟩
 |12,_=>
  have W:=oZ (bd (st'.length-2)).1 (bd (st'.length-2)).2 (bd (st'.length-2+1)).1 (bd (st'.length-2+1)).2;have B:=p7 (bd (st'.length-2)).1 (bd (st'.length-2)).2 (bd (st'.length-2+1)).1 (bd (st'.length-2+1)).2 12 (by omega) (fun e=>by omega)
  exact⟨fun _=>⟨congrArg (fun z=>st'.take (st'.length-2)++[z]) W.2.2.2.2.2.2.1.symm,rfl,hr0,hr1,hi,rfl,eG hnum (fO (by have:=W.2.2.2.2.2.2.1;rw[←this]at B;exact B)),hcel⟩,rfl,rfl,rfl,rfl,rfl,rfl,rfl,fun e=>by cases e⟩
 |13,_=>
  have W:=oZ (bd (st'.length-2)).1 (bd (st'.length-2)).2 (bd (st'.length-2+1)).1 (bd (st'.length-2+1)).2;have B:=p7 (bd (st'.length-2)).1 (bd (st'.length-2)).2 (bd (st'.length-2+1)).1 (bd (st'.length-2+1)).2 13 (by omega) (fun e=>by omega)
  exact⟨fun _=>⟨congrArg (fun z=>st'.take (st'.length-2)++[z]) W.2.2.2.2.2.2.2.symm,rfl,hr0,hr1,hi,rfl,eG hnum (fO (by have:=W.2.2.2.2.2.2.2;rw[←this]at B;exact B)),hcel⟩,rfl,rfl,rfl,rfl,rfl,rfl,rfl,fun e=>by cases e⟩
 |14,_=>exact ⟨fun _=>⟨rfl,rfl,hr0,hr1,hi,rfl,fun x hx=>hnum x (List.mem_of_mem_take hx),hcel⟩,rfl,rfl,rfl,rfl,rfl,rfl,rfl,fun e=>by cases e⟩
 |15,_=>
  have e1:kQ inp ⟨st',ce',rd,he,cn',ah',ki',fa',pl',strOfNums ou,sp',false⟩ 15 n=⟨st'.take (st'.length-1),ce',rd,if(15:Nat)=14∨((15:Nat)=15∧st'.getD (st'.length-1) 0=0)then n else he+2,cn',ah',ki',fa',pl',strOfNums ou,sp'+1,false⟩:=rfl;by_cases ha0:st'.getD (st'.length-1) 0=0
  ·rw[if_pos (Or.inr ⟨rfl,ha0⟩)]at e1;have e2:fT ⟨st',ce',inn,ou,he+aX (15*3),ki',fa',he,sp'+1,false⟩ 15 n=⟨st'.take (st'.length-1),ce',inn,ou,n,ki',fa',he,sp'+1,false⟩:=if_pos (c:=st'.getD (st'.length-1) 0=0) ha0;rw[e1,e2]
   exact⟨fun _=>⟨rfl,rfl,hr0,hr1,hi,rfl,fun x hx=>hnum x (List.mem_of_mem_take hx),hcel⟩,rfl,rfl,rfl,rfl,rfl,rfl,rfl,fun e=>by cases e⟩
  ·rw[if_neg (fun e=>ha0 (by rcases e with e|e;(cases e);(exact e.2)))]at e1;have e2:fT ⟨st',ce',inn,ou,he+aX (15*3),ki',fa',he,sp'+1,false⟩ 15 n=⟨st'.take (st'.length-1),ce',inn,ou,he+aX (15*3),ki',fa',he,sp'+1,false⟩:=if_neg (c:=st'.getD (st'.length-1) 0=0) ha0;rw[e1,e2]
   exact⟨fun _=>⟨rfl,rfl,hr0,hr1,hi,rfl,fun x hx=>hnum x (List.mem_of_mem_take hx),hcel⟩,rfl,rfl,rfl,rfl,rfl,rfl,rfl,fun e=>by cases e⟩
 |16,_=>exact ⟨fun _=>⟨rfl,rfl,hr0,hr1,hi,rfl,eG hnum (fO (hcel _)),hcel⟩,rfl,rfl,rfl,rfl,rfl,rfl,rfl,fun e=>by cases e⟩
 |17,_=>exact ⟨fun _=>⟨rfl,rfl,hr0,hr1,hi,rfl,fun x hx=>hnum x (List.mem_of_mem_take hx),fun i=>by
   show 0≤(if i=n.toNat then st'.getD (st'.length-1) 0 else ce' i)∧(if i=n.toNat then st'.getD (st'.length-1) 0 else ce' i)≤65535;split
   ·exact bd _
   ·exact hcel i⟩,rfl,rfl,rfl,rfl,rfl,rfl,rfl,fun e=>by cases e⟩
 |18,_=>
  have hos:=strOfNums_size ou;by_cases hf:ou.length=16
  ·have e1:kQ inp ⟨st',ce',rd,he,cn',ah',ki',fa',pl',strOfNums ou,sp',false⟩ 18 n=mz ⟨st',ce',rd,he,cn',ah',ki',fa',pl',strOfNums ou,sp'+1,false⟩ 1 4:=if_pos (c:=(18:Nat)=18∧16≤(strOfNums ou).size) ⟨rfl,by omega⟩;have e2:fT ⟨st',ce',inn,ou,he+aX (18*3),ki',fa',he,sp'+1,false⟩ 18 n=fin ⟨st'.take (st'.length-1),ce',inn,ou,he+aX (18*3),ki',fa',he,sp'+1,false⟩ 1 4:=if_pos (c:=ou.length=16) hf;rw[e1,e2]
   exact⟨(fun e=>by cases e),rfl,rfl,rfl,rfl,rfl,rfl,rfl,fun _=>rfl⟩
  ·have e1:kQ inp ⟨st',ce',rd,he,cn',ah',ki',fa',pl',strOfNums ou,sp',false⟩ 18 n=⟨st'.take (st'.length-1),ce',rd,he+1,cn',ah',ki',fa',pl',strOfNums ou++strOfNums [st'.getD (st'.length-1) 0%256],sp'+1,false⟩:=if_neg (c:=(18:Nat)=18∧16≤(strOfNums ou).size) (fun e=>by have:=e.2;omega);have e2:fT ⟨st',ce',inn,ou,he+aX (18*3),ki',fa',he,sp'+1,false⟩ 18 n=⟨st'.take (st'.length-1),ce',inn,ou++[IntKind.u8.wrap (st'.getD (st'.length-1) 0)],he+aX (18*3),ki',fa',he,sp'+1,false⟩:=if_neg (c:=ou.length=16) hf;rw[e1,e2]
   exact⟨fun _=>⟨rfl,rfl,hr0,hr1,hi,rfl,fun x hx=>hnum x (List.mem_of_mem_take hx),hcel⟩,rfl,rfl,rfl,rfl,rfl,(Hf _ _).symm,rfl,fun e=>by cases e⟩
 |19,_=>exact ⟨(fun e=>by cases e),rfl,rfl,rfl,rfl,rfl,rfl,rfl,fun _=>rfl⟩
 |k+20,hk=>omega
end Go.Proofs.YtmpgjkhchfcjlaaGreatDoor
