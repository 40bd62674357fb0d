import Derived.Test.YtmpgjkhchfcjlaaGreatDoorM02
import Derived.Deep.RegionWith
namespace Go.Proofs.YtmpgjkhchfcjlaaGreatDoor
open Go.RowKit
set_option maxRecDepth 100000
set_option maxHeartbeats 1000000
def bp (k:Nat):Nat:=(aX (k*3)).toNat
def aI (k:Nat):Nat:=(aX (k*3+1)).toNat
def eO (k:Nat):Nat:=(aX (k*3+2)).toNat
def fT (σ:St)(k:Nat)(n:Int):St:=
 let q:=σ.stack.length-aI k
 let a:=if aI k=0 then 0 else σ.stack.getD q 0
 let b:=if aI k=2 then σ.stack.getD (q+1) 0 else 0
 let l:=σ.stack.take q
 let ρ:St:={σ with stack:=l}
 match k with
 |0=>fin ρ 0 0
 |1=>{ρ with stack:=l++[n]}
 |2=>if h:0<σ.input.size then{ρ with input:=σ.input.extract 1 σ.input.size,stack:=l++[((σ.input[0]'h).toNat:Int)]}else{ρ with stack:=l++[256]}
 |3=>{ρ with stack:=l++[a,a]}
 |4=>ρ
 |5=>{ρ with stack:=l++[b,a]}
 |6=>{ρ with stack:=l++[IntKind.u16.wrap (a+b)]}
 |7=>{ρ with stack:=l++[IntKind.u16.wrap (a+IntKind.u16.wrap (-b))]}
 |8=>{ρ with stack:=l++[IntKind.u16.wrap (a*b)]}
 |9=>{ρ with stack:=l++[bits .and .u16 a b]}
 |10=>{ρ with stack:=l++[bits .xor .u16 a b]}
 |11=>if b=0 then fin ρ 1 1 else{ρ with stack:=l++[IntKind.u16.wrap (a.tdiv b)]}
 |12=>{ρ with stack:=l++[Gt (decide (bits .xor .u16 a b<1))]}
 |13=>{ρ with stack:=l++[Gt (decide (a<b))]}
 |14=>{ρ with next:=n}
 |15=>if a=0 then{ρ with next:=n}else ρ
 |16=>{ρ with stack:=l++[σ.cells n.toNat]}
 |17=>{ρ with cells:=fun i=>if i=n.toNat then a else σ.cells i}
 |18=>vn ρ (IntKind.u8.wrap a)
 |19=>fin ρ 1 (16+n)
 |_=>ρ
theorem om (s:List Int)(h:1≤s.length):s=s.take (s.length-1)++[s.getD (s.length-1) 0]:=by
 have:=List.take_append_drop (s.length-1) s
 rw[List.drop_eq_getElem_cons (by omega)]at this;rw[show s.drop (s.length-1+1)=[]from List.drop_eq_nil_of_le (by omega)]at this;have e:s.getD (s.length-1) 0=s[s.length-1]'(by omega):=by simp[List.getD,List.getElem?_eq_getElem (show s.length-1<s.length by omega)]
 rw[e];exact this.symm
theorem jE (s:List Int)(h:2≤s.length):s=s.take (s.length-2)++[s.getD (s.length-2) 0,s.getD (s.length-2+1) 0]:=by
 have:=List.take_append_drop (s.length-2) s
 rw[List.drop_eq_getElem_cons (by omega),List.drop_eq_getElem_cons (by omega)]at this;rw[show s.drop (s.length-2+1+1)=[]from List.drop_eq_nil_of_le (by omega)]at this;have e:s.getD (s.length-2) 0=s[s.length-2]'(by omega):=by simp[List.getD,List.getElem?_eq_getElem (show s.length-2<s.length by omega)]
 have e2:s.getD (s.length-2+1) 0=s[s.length-2+1]'(by omega):=by simp[List.getD,List.getElem?_eq_getElem (show s.length-2+1<s.length by omega)]
 rw[e,e2];exact this.symm
theorem DF (base M:Nat)(w:World)(vs vo:Value)(σ:St)(k:Nat)(n:Int)(hk:k≤20)(hn:0≤n)(hn':n≤255)(hh:k=16∨k=17→n<16)(h1:aI k≤σ.stack.length)(h2:σ.stack.length-aI k+eO k≤32)(h3:σ.stack.length≤32)
  (hi:σ.input.size≤24)(ho:σ.out.length≤16)(hT:bK w)(h:MS base M w vs vo σ):
  Calls Tryz.prog 150 #[.pointer (some ⟨M,0,none⟩),.int .u8 (k:Int),.int .u16 n] w (Out base M w (fT σ k n)):=by
 have e0:∀(τ:St),({τ with stack:=τ.stack.take (τ.stack.length-0)}:St)=τ:=fun τ=>by simp
 match k,hk with
 |0,_=>simpa [fT,aI,aX,aj]using Gu base M w vs vo σ n h3 hT h
 |1,_=>simpa [fT,aI,aX,aj]using Gw base M w vs vo σ n (by simp[aI,eO,aX,aj]at h2;omega) hT h
 |2,_=>
  have hl:σ.stack.length<32:=by simp[aI,eO,aX,aj]at h2;omega
  by_cases he:0<σ.input.size
  ·simpa[fT,aI,aX,aj,he]using tP base M w vs vo σ n hl hi he hT h
  ·simpa[fT,aI,aX,aj,he]using tO base M w vs vo σ n hl (by omega) hT h
 |3,_=>
  have hl:1≤σ.stack.length:=by simpa[aI,aX,aj]using h1
  have h2':σ.stack.length-1+2≤32:=by simpa[aI,eO,aX,aj]using h2
  simpa[fT,aI,aX,aj]using Ju base M w vs vo σ n _ _ (om σ.stack hl) (by rw[List.length_take];omega) hT h
 |4,_=>
  have hl:1≤σ.stack.length:=by simpa[aI,aX,aj]using h1
  have h2':σ.stack.length-1+0≤32:=by simpa[aI,eO,aX,aj]using h2
  simpa[fT,aI,aX,aj]using GC base M w vs vo σ n _ _ (om σ.stack hl) (by rw[List.length_take];omega) hT h
 |5,_=>
  have hl:2≤σ.stack.length:=by simpa[aI,aX,aj]using h1
  simpa[fT,aI,aX,aj]using Gx base M w vs vo σ n _ _ _ (jE σ.stack hl) (by rw[List.length_take];omega) hT h
 |6,_=>
  have hl:2≤σ.stack.length:=by simpa[aI,aX,aj]using h1
  simpa[fT,aI,aX,aj]using Jw base M w vs vo σ n _ _ _ (jE σ.stack hl) (by rw[List.length_take];omega) hT h
 |7,_=>
  have hl:2≤σ.stack.length:=by simpa[aI,aX,aj]using h1
  simpa[fT,aI,aX,aj]using Jv base M w vs vo σ n _ _ _ (jE σ.stack hl) (by rw[List.length_take];omega) hT h
 |8,_=>
  have hl:2≤σ.stack.length:=by simpa[aI,aX,aj]using h1
  simpa[fT,aI,aX,aj]using Jx base M w vs vo σ n _ _ _ (jE σ.stack hl) (by rw[List.length_take];omega) hT h
 |9,_=>
  have hl:2≤σ.stack.length:=by simpa[aI,aX,aj]using h1
  simpa[fT,aI,aX,aj]using Jy base M w vs vo σ n _ _ _ (jE σ.stack hl) (by rw[List.length_take];omega) hT h
 |10,_=>
  have hl:2≤σ.stack.length:=by simpa[aI,aX,aj]using h1
  simpa[fT,aI,aX,aj]using Jz base M w vs vo σ n _ _ _ (jE σ.stack hl) (by rw[List.length_take];omega) hT h
 |11,_=>
  have hl:2≤σ.stack.length:=by simpa[aI,aX,aj]using h1
  by_cases hb:σ.stack.getD (σ.stack.length-2+1) 0=0
  ·have hb':σ.stack[σ.stack.length-2+1]?.getD 0=0:=(by simpa using hb);simpa[fT,aI,aX,aj,hb']using Gz base M w vs vo σ n _ _ _ (jE σ.stack hl) (by rw[List.length_take];omega) hb hT h
  ·have hb':¬σ.stack[σ.stack.length-2+1]?.getD 0=0:=(by simpa using hb);simpa[fT,aI,aX,aj,hb']using JA base M w vs vo σ n _ _ _ (jE σ.stack hl) (by rw[List.length_take];omega) hb hT h
 |12,_=>
  have hl:2≤σ.stack.length:=by simpa[aI,aX,aj]using h1
  simpa[fT,aI,aX,aj]using DB base M w vs vo σ n _ _ _ (jE σ.stack hl) (by rw[List.length_take];omega) hT h
 |13,_=>
  have hl:2≤σ.stack.length:=by simpa[aI,aX,aj]using h1
  simpa[fT,aI,aX,aj]using Gy base M w vs vo σ n _ _ _ (jE σ.stack hl) (by rw[List.length_take];omega) hT h
 |14,_=>simpa [fT,aI,aX,aj]using GA base M w vs vo σ n h3 hn (by omega) hT h
 |15,_=>
  have hl:1≤σ.stack.length:=by simpa[aI,aX,aj]using h1
  by_cases ha:σ.stack.getD (σ.stack.length-1) 0=0
  ·have ha':σ.stack[σ.stack.length-1]?.getD 0=0:=(by simpa using ha);simpa[fT,aI,aX,aj,ha']using Ku base M w vs vo σ n _ _ (om σ.stack hl) (by rw[List.length_take];omega) ha hn (by omega) hT h
  ·have ha':¬σ.stack[σ.stack.length-1]?.getD 0=0:=(by simpa using ha);simpa[fT,aI,aX,aj,ha']using Bh base M w vs vo σ n _ _ (om σ.stack hl) (by rw[List.length_take];omega) (beq_eq_false_iff_ne.2 ha) hT h
 |16,_=>
  have h16:=hh (.inl rfl);simpa[fT,aI,aX,aj]using GB base M w vs vo σ n (by simp[aI,eO,aX,aj]at h2;omega) n.toNat (by omega) (by omega) hT h
 |17,_=>
  have h16:=hh (.inr rfl);have hl:1≤σ.stack.length:=by simpa[aI,aX,aj]using h1
  simpa[fT,aI,aX,aj]using DC base M w vs vo σ n _ _ (om σ.stack hl) (by rw[List.length_take];omega) n.toNat (by omega) (by omega) hT h
 |18,_=>
  have hl:1≤σ.stack.length:=by simpa[aI,aX,aj]using h1
  simpa[fT,aI,aX,aj]using JB base M w vs vo σ n _ _ (om σ.stack hl) (by rw[List.length_take];omega) ho hT h
 |19,_=>simpa [fT,aI,aX,aj]using Gv base M w vs vo σ n h3 hn (by omega) hT h
 |20,_=>simpa [fT,aI,aX,aj]using vv base M w vs vo σ n h3 hT h
 |k+21,hk=>omega
theorem eP:∀k,k≤20→(1≤aX (k*3)∧aX (k*3)≤2)∧(0≤aX (k*3+1)∧aX (k*3+1)≤2)∧(0≤aX (k*3+2)∧aX (k*3+2)≤2):=by
 intro k hk;match k,hk with
 |0,_|1,_|2,_|3,_|4,_|5,_|6,_|7,_|8,_|9,_|10,_|11,_|12,_|13,_|14,_|15,_|16,_|17,_|18,_|19,_|20,_=>simp [aX,aj]
 |k+21,hk=>omega
theorem MS.head {base M:Nat}{w:World}{vs vo:Value}{σ:St}(h:MS base M w vs vo σ):∃ao cap,vs=.slice ao σ.stack.length cap:=by
 rcases h.bI.2 with⟨e,h0⟩|⟨g,cap,cur,hv,_⟩
 ·exact⟨none,0,by rw[h0];exact e⟩
 ·exact⟨_,_,hv⟩
theorem bK.alloc {w:World}(hT:bK w)(o:Obj):bK (w.alloc o):=fun k hk=>(World.cell?_alloc_past _ _ _ hT.pos).trans (hT k hk)
theorem three {base M:Nat}{w X:World}{vs vo:Value}{σ:St}(h1:MS base M X vs vo σ)(k1:Kept base M w X)(hT:bK X)(o1 o2 o3:Obj):
  MS base M (((X.alloc o1).alloc o2).alloc o3).drew.drew vs vo σ∧Kept base M w (((X.alloc o1).alloc o2).alloc o3).drew.drew∧bK (((X.alloc o1).alloc o2).alloc o3).drew.drew:=by
 have a:=h1.alloc o1;have b:=a.alloc o2;have c:=b.alloc o3;have K:=((k1.trans (Kept.alloc (M:=M) X h1.le o1)).trans (Kept.alloc (M:=M) _ a.le o2)).trans (Kept.alloc (M:=M) _ b.le o3)
 exact⟨c.drew.drew,⟨K.os,K.tape,K.output,K.size,K.block⟩,fun k hk=>((hT.alloc o1).alloc o2).alloc o3 k hk⟩
theorem DG (base M:Nat)(w:World)(vs vo:Value)(σ:St)(cb co len cap:Nat)(k:Nat)(fuel:Int)(hk20:((k:Int) !=20)=true)(hc0:w.cell? ⟨cb,co,none⟩=some (.int .u8 (k:Int)))(hl:1≤len)
  (hz:(σ.steps==fuel)=true)(h:MS base M w vs vo σ):
  Calls Tryz.prog 103 #[.pointer (some ⟨M,0,none⟩),.slice (some ⟨cb,co,none⟩) len cap,.int .i64 fuel] w (Out base M w (fin σ 2 0)):=by
 have c24:=h.cell 24 (by omega);rw[kX]at c24;have hl0:(0:Int)<(len:Int):=by omega
 go_in;go_wp2_with fail
 refine(lN base M _ _ _ _ 2 0 h).mono ?_
 rintro e w3 ⟨rfl,h6,k6⟩;go_wp2;exact bodyPost_ret (results_none rfl _ _ _) rfl ⟨rfl,⟨_,_,h6⟩,k6⟩
theorem Bi (base M:Nat)(w:World)(vs vo:Value)(σ:St)(cb co len cap:Nat)(k:Nat)(fuel:Int)(hk:k≤20)(hk20:((k:Int) !=20)=true)(hc0:w.cell? ⟨cb,co,none⟩=some (.int .u8 (k:Int)))(hl:1≤len)
  (hz:(σ.steps==fuel)=false)(hs0:0≤σ.steps)(hs1:σ.steps≤1000)(hx0:0≤σ.next)(hx1:σ.next≤1000)(h3:σ.stack.length≤32)(hT:bK w)(h:MS base M w vs vo σ)(h0M:0<M)(r:Int)(hr:bT σ.stack.length (aX (k*3+1)) (aX (k*3+2))=r)(hr0:(r !=0)=true):
  Calls Tryz.prog 103 #[.pointer (some ⟨M,0,none⟩),.slice (some ⟨cb,co,none⟩) len cap,.int .i64 fuel] w (Out base M w (fin {σ with steps:=σ.steps+1,next:=σ.next+aX (k*3)} 1 r)):=by
 obtain⟨ao,cp,rfl⟩:=h.head
 have hM:=Nat.lt_of_lt_of_le h.lt h.le;have c24:=h.cell 24 (by omega);rw[kX]at c24;have f24:=h.thaw 24;have c19:=h.cell 19 (by omega);rw[k9]at c19;have f19:=h.thaw 19;have c00:=h.cell 0 (by omega);rw[ij]at c00;have hl0:(0:Int)<(len:Int):=by omega
 obtain⟨⟨z1,z2⟩,⟨t1,t2⟩,⟨l1,l2⟩⟩:=eP k hk
 have h1:=(h.jL (σ.steps+1)).lM (σ.next+aX (k*3));have k1:=(Kept.set base M w 24 (.int .i64 (σ.steps+1))).trans (Kept.set base M _ 19 (.int .i64 (σ.next+aX (k*3))));have hT1:=(Kept.set base M w 24 (.int .i64 (σ.steps+1))).tab h0M h.lt hT;have hT2:=k1.tab h0M h.lt hT;have hd0:(0:Int)≤(σ.stack.length:Int):=by omega
 have hd1:(σ.stack.length:Int)≤32:=by omega
 have hmf:Hid (∀w',Calls Tryz.prog 149 #[.int .i64 (σ.stack.length:Int),.agg #[.int .i64 (aX (k*3)),.int .i64 (aX (k*3+1)),.int .i64 (aX (k*3+2))]] w' fun e w''=>e=.returned (.int .i64 r)∧∃c,w''=w'.alloc (.cells c 176)):=by
  intro w';rw[←hr];exact kg _ _ _ _ w' hd0 hd1 t1 t2 l1 l2
 have HT1:=hid hT1;have HT2:=hid hT2;clear hT hT1 hT2 hr;go_in;go_wp2_with fail
 refine(ak k hk _ HT1.out).mono ?_
 rintro e w1 ⟨rfl,c,rfl⟩;go_wp2_with fail
 go_region
 go_wp2_with fail
 go_region_with(go_at_call 149;refine(hmf.out _).mono ?_;rintro e w2 ⟨rfl,c2,rfl⟩)
 all_goals
  go_wp2_with fail
  obtain⟨h5,k5,_⟩:=three h1 k1 HT2.out (.cells c 176) (.cells #[.int .i64 (aX (k*3)),.int .i64 (aX (k*3+1)),.int .i64 (aX (k*3+2))] 176) (.cells c2 176)
  refine(lN base M _ _ _ _ 1 r h5).mono ?_
  rintro e w3 ⟨rfl,h6,k6⟩;go_wp2;exact bodyPost_ret (results_none rfl _ _ _) rfl ⟨rfl,⟨_,_,h6⟩,k5.trans k6⟩
theorem GD (base M:Nat)(w:World)(vs vo:Value)(σ:St)(cb co len cap:Nat)(k:Nat)(fuel:Int)(hk:k≤20)(hk20:((k:Int) !=20)=true)(hc0:w.cell? ⟨cb,co,none⟩=some (.int .u8 (k:Int)))(hl:1≤len)
  (hz:(σ.steps==fuel)=false)(hs0:0≤σ.steps)(hs1:σ.steps≤1000)(hx0:0≤σ.next)(hx1:σ.next≤1000)(h3:σ.stack.length≤32)(hT:bK w)(h:MS base M w vs vo σ)(h0M:0<M)(r:Int)(hr:bT σ.stack.length (aX (k*3+1)) (aX (k*3+2))=r)(hr0:(r !=0)=false)(hs:aX (k*3)=1)(hh:¬(k=16∨k=17))(hi:σ.input.size≤24)(ho:σ.out.length≤16)(hq1:aI k≤σ.stack.length)(hq2:σ.stack.length-aI k+eO k≤32):
  Calls Tryz.prog 103 #[.pointer (some ⟨M,0,none⟩),.slice (some ⟨cb,co,none⟩) len cap,.int .i64 fuel] w (Out base M w (fT {σ with steps:=σ.steps+1,next:=σ.next+aX (k*3)} k 0)):=by
 have hs1':¬(1:Int)<aX (k*3):=by omega
 clear hs
 obtain⟨ao,cp,rfl⟩:=h.head
 have hM:=Nat.lt_of_lt_of_le h.lt h.le;have c24:=h.cell 24 (by omega);rw[kX]at c24;have f24:=h.thaw 24;have c19:=h.cell 19 (by omega);rw[k9]at c19;have f19:=h.thaw 19;have c00:=h.cell 0 (by omega);rw[ij]at c00;have hl0:(0:Int)<(len:Int):=by omega
 obtain⟨⟨z1,z2⟩,⟨t1,t2⟩,⟨l1,l2⟩⟩:=eP k hk
 have h1:=(h.jL (σ.steps+1)).lM (σ.next+aX (k*3));have k1:=(Kept.set base M w 24 (.int .i64 (σ.steps+1))).trans (Kept.set base M _ 19 (.int .i64 (σ.next+aX (k*3))));have hT1:=(Kept.set base M w 24 (.int .i64 (σ.steps+1))).tab h0M h.lt hT;have hT2:=k1.tab h0M h.lt hT;have hd0:(0:Int)≤(σ.stack.length:Int):=by omega
 have hd1:(σ.stack.length:Int)≤32:=by omega
 have hmf:Hid (∀w',Calls Tryz.prog 149 #[.int .i64 (σ.stack.length:Int),.agg #[.int .i64 (aX (k*3)),.int .i64 (aX (k*3+1)),.int .i64 (aX (k*3+2))]] w' fun e w''=>e=.returned (.int .i64 r)∧∃c,w''=w'.alloc (.cells c 176)):=by
  intro w';rw[←hr];exact kg _ _ _ _ w' hd0 hd1 t1 t2 l1 l2
 have HT1:=hid hT1;have HT2:=hid hT2;clear hT hT1 hT2 hr;go_in;go_wp2_with fail
 refine(ak k hk _ HT1.out).mono ?_
 rintro e w1 ⟨rfl,c,rfl⟩;go_wp2_with fail
 go_region
 go_wp2_with fail
 go_region_with(go_at_call 149;refine(hmf.out _).mono ?_;rintro e w2 ⟨rfl,c2,rfl⟩)
 all_goals
  go_wp2_with fail
  obtain⟨h5,k5,t5⟩:=three h1 k1 HT2.out (.cells c 176) (.cells #[.int .i64 (aX (k*3)),.int .i64 (aX (k*3+1)),.int .i64 (aX (k*3+2))] 176) (.cells c2 176)
  refine(DF base M _ _ _ {σ with steps:=σ.steps+1,next:=σ.next+aX (k*3)} k 0 hk (by omega) (by omega) (fun c=>absurd c hh) hq1 hq2 h3 hi ho t5 h5).mono ?_
  rintro e w3 ⟨rfl,⟨vs6,vo6,h6⟩,k6⟩;go_wp2;go_end0
  exact⟨rfl,⟨_,_,h6⟩,k5.trans k6⟩
theorem GF (base M:Nat)(w:World)(vs vo:Value)(σ:St)(cb co len cap:Nat)(k:Nat)(fuel:Int)(hk:k≤20)(hk20:((k:Int) !=20)=true)(hc0:w.cell? ⟨cb,co,none⟩=some (.int .u8 (k:Int)))
  (hz:(σ.steps==fuel)=false)(hs0:0≤σ.steps)(hs1:σ.steps≤1000)(hx0:0≤σ.next)(hx1:σ.next≤1000)(h3:σ.stack.length≤32)(hT:bK w)(h:MS base M w vs vo σ)(h0M:0<M)(r:Int)(hr:bT σ.stack.length (aX (k*3+1)) (aX (k*3+2))=r)(hr0:(r !=0)=false)(hs:aX (k*3)=2)(n:Int)(hn:0≤n)(hn':n≤255)(hh:k=16∨k=17→n<16)(hl2:2≤len)(hc1:w.cell? ⟨cb,co+1,none⟩=some (.int .u8 n))(hcb:cb≠M)(hcz:cb<w.heap.size)(hi:σ.input.size≤24)(ho:σ.out.length≤16)(hq1:aI k≤σ.stack.length)(hq2:σ.stack.length-aI k+eO k≤32):
  Calls Tryz.prog 103 #[.pointer (some ⟨M,0,none⟩),.slice (some ⟨cb,co,none⟩) len cap,.int .i64 fuel] w (Out base M w (fT {σ with steps:=σ.steps+1,next:=σ.next+aX (k*3)} k n)):=by
 have hs1':(1:Int)<aX (k*3):=by omega
 have hl1:(1:Int)<(len:Int):=by omega
 have hcb':M≠cb:=fun c=>hcb c.symm
 clear hs
 obtain⟨ao,cp,rfl⟩:=h.head
 have hM:=Nat.lt_of_lt_of_le h.lt h.le;have c24:=h.cell 24 (by omega);rw[kX]at c24;have f24:=h.thaw 24;have c19:=h.cell 19 (by omega);rw[k9]at c19;have f19:=h.thaw 19;have c00:=h.cell 0 (by omega);rw[ij]at c00;have hl0:(0:Int)<(len:Int):=by omega
 obtain⟨⟨z1,z2⟩,⟨t1,t2⟩,⟨l1,l2⟩⟩:=eP k hk
 have h1:=(h.jL (σ.steps+1)).lM (σ.next+aX (k*3));have k1:=(Kept.set base M w 24 (.int .i64 (σ.steps+1))).trans (Kept.set base M _ 19 (.int .i64 (σ.next+aX (k*3))));have hT1:=(Kept.set base M w 24 (.int .i64 (σ.steps+1))).tab h0M h.lt hT;have hT2:=k1.tab h0M h.lt hT;have hd0:(0:Int)≤(σ.stack.length:Int):=by omega
 have hd1:(σ.stack.length:Int)≤32:=by omega
 have hmf:Hid (∀w',Calls Tryz.prog 149 #[.int .i64 (σ.stack.length:Int),.agg #[.int .i64 (aX (k*3)),.int .i64 (aX (k*3+1)),.int .i64 (aX (k*3+2))]] w' fun e w''=>e=.returned (.int .i64 r)∧∃c,w''=w'.alloc (.cells c 176)):=by
  intro w';rw[←hr];exact kg _ _ _ _ w' hd0 hd1 t1 t2 l1 l2
 have HT1:=hid hT1;have HT2:=hid hT2;have hcz1:cb<w.heap.size+1:=by omega
 have hcz2:cb<w.heap.size+1+1:=by omega
 have hcz3:cb<w.heap.size+2:=by omega
 have hc2:((w.setCell ⟨M,24,none⟩ (.int .i64 (σ.steps+1))).setCell ⟨M,19,none⟩ (.int .i64 (σ.next+aX (k*3)))).cell? ⟨cb,co+1,none⟩=some (.int .u8 n):=by
  rw[World.cell?_setCell_other _ _ _ _ (fun c=>by injection c with c1 _ _;exact hcb c1.symm),World.cell?_setCell_other _ _ _ _ (fun c=>by injection c with c1 _ _;exact hcb c1.symm)];exact hc1
 clear hT hT1 hT2 hr;go_in;go_wp2_with fail
 refine(ak k hk _ HT1.out).mono ?_
 rintro e w1 ⟨rfl,c,rfl⟩;go_wp2_with fail
 go_region
 go_wp2_with fail
 go_region_with(go_at_call 149;refine(hmf.out _).mono ?_;rintro e w2 ⟨rfl,c2,rfl⟩)
 all_goals
  go_wp2_with fail
  obtain⟨h5,k5,t5⟩:=three h1 k1 HT2.out (.cells c 176) (.cells #[.int .i64 (aX (k*3)),.int .i64 (aX (k*3+1)),.int .i64 (aX (k*3+2))] 176) (.cells c2 176)
  refine(DF base M _ _ _ {σ with steps:=σ.steps+1,next:=σ.next+aX (k*3)} k n hk (by omega) (by omega) hh hq1 hq2 h3 hi ho t5 h5).mono ?_
  rintro e w3 ⟨rfl,⟨vs6,vo6,h6⟩,k6⟩;go_wp2;go_end0
  exact⟨rfl,⟨_,_,h6⟩,k5.trans k6⟩
theorem Bj (base M:Nat)(w:World)(vs vo:Value)(σ:St)(cb co len cap:Nat)(n fuel:Int)(hc0:w.cell? ⟨cb,co,none⟩=some (.int .u8 20))
  (hx0:0≤σ.next)(hx1:σ.next≤1000)(h3:σ.stack.length≤32)(hT:bK w)(h:MS base M w vs vo σ)(h0M:0<M)(hn:0≤n)(hn':n≤255)(hl2:2≤len)(hc1:w.cell? ⟨cb,co+1,none⟩=some (.int .u8 n))(hcb:cb≠M)(hcz:cb<w.heap.size):
  Calls Tryz.prog 103 #[.pointer (some ⟨M,0,none⟩),.slice (some ⟨cb,co,none⟩) len cap,.int .i64 fuel] w (Out base M w {σ with next:=σ.next+2}):=by
 obtain⟨ao,cp,rfl⟩:=h.head
 have hM:=Nat.lt_of_lt_of_le h.lt h.le;have c19:=h.cell 19 (by omega);rw[k9]at c19;have f19:=h.thaw 19;have c00:=h.cell 0 (by omega);rw[ij]at c00;have hl0:(0:Int)<(len:Int):=by omega
 have hl1:(1:Int)<(len:Int):=by omega
 have hcb':M≠cb:=fun c=>hcb c.symm
 have h1:=h.lM (σ.next+2);have k1:=Kept.set base M w 19 (.int .i64 (σ.next+2));have hT2:=k1.tab h0M h.lt hT;have hd0:(0:Int)≤(σ.stack.length:Int):=by omega
 have hd1:(σ.stack.length:Int)≤32:=by omega
 have hmf:Hid (∀w',Calls Tryz.prog 149 #[.int .i64 (σ.stack.length:Int),.agg #[.int .i64 2,.int .i64 0,.int .i64 0]] w' fun e w''=>e=.returned (.int .i64 0)∧∃c,w''=w'.alloc (.cells c 176)):=by
  intro w';have hr:bT σ.stack.length 0 0=0:=by unfold bT;rw[if_neg (by omega),if_neg (by omega)]
  have:=kg (σ.stack.length:Int) 2 0 0 w' hd0 hd1 (by omega) (by omega) (by omega) (by omega)
  rw[hr]at this;exact this
 have HT1:=hid hT;have HT2:=hid hT2;have hcz1:cb<w.heap.size+1:=by omega
 have hcz2:cb<w.heap.size+1+1:=by omega
 have hcz3:cb<w.heap.size+2:=by omega
 have hc2:(w.setCell ⟨M,19,none⟩ (.int .i64 (σ.next+2))).cell? ⟨cb,co+1,none⟩=some (.int .u8 n):=by
  rw[World.cell?_setCell_other _ _ _ _ (fun c=>by injection c with c1 _ _;exact hcb c1.symm)];exact hc1
 clear hT hT2;go_in;go_wp2_with fail
 refine(Ae _ HT1.out).mono ?_
 rintro e w1 ⟨rfl,c,rfl⟩;go_wp2_with fail
 go_region
 go_wp2_with fail
 go_region_with(go_at_call 149;refine(hmf.out _).mono ?_;rintro e w2 ⟨rfl,c2,rfl⟩)
 all_goals
  go_wp2_with fail
  obtain⟨h5,k5,t5⟩:=three h1 k1 HT2.out (.cells c 176) (.cells #[.int .i64 2,.int .i64 0,.int .i64 0] 176) (.cells c2 176)
  refine(vv base M _ _ _ {σ with next:=σ.next+2} n h3 t5 h5).mono ?_
  rintro e w3 ⟨rfl,⟨vs6,vo6,h6⟩,k6⟩;go_wp2;go_end0
  exact⟨rfl,⟨_,_,h6⟩,k5.trans k6⟩
def mq (σ:St)(k:Nat)(n fuel:Int):St:=
 if k=20 then{σ with next:=σ.next+2}
 else if σ.steps=fuel then fin σ 2 0
 else if bT σ.stack.length (aX (k*3+1)) (aX (k*3+2))≠0 then fin {σ with steps:=σ.steps+1,next:=σ.next+aX (k*3)} 1 (bT σ.stack.length (aX (k*3+1)) (aX (k*3+2)))
 else fT {σ with steps:=σ.steps+1,next:=σ.next+aX (k*3)} k n
theorem kY {d t l:Int}(h:bT d t l=0):0≤d-t∧d-t+l≤32:=by
 unfold bT at h;by_cases h1:d-t<0
 ·rw[if_pos h1]at h;cases h
 ·rw[if_neg h1]at h;by_cases h2:32<d-t+l
  ·rw[if_pos h2]at h;cases h
  ·omega
theorem DI:∀k,k≤20→(aX (k*3)=1∧¬(k=16∨k=17))∨aX (k*3)=2:=by
 intro k hk;match k,hk with
 |0,_|1,_|2,_|3,_|4,_|5,_|6,_|7,_|8,_|9,_|10,_|11,_|12,_|13,_|14,_|15,_|16,_|17,_|18,_|19,_|20,_=>simp [aX,aj]
 |k+21,hk=>omega
theorem GG (base M:Nat)(w:World)(vs vo:Value)(σ:St)(cb co len cap:Nat)(k:Nat)(n fuel:Int)(hk:k≤20)(hc0:w.cell? ⟨cb,co,none⟩=some (.int .u8 (k:Int)))(hl:1≤len)
  (hs0:0≤σ.steps)(hs1:σ.steps≤1000)(hx0:0≤σ.next)(hx1:σ.next≤1000)(h3:σ.stack.length≤32)(hT:bK w)(h:MS base M w vs vo σ)(h0M:0<M)
  (hn:0≤n)(hn':n≤255)(hh:k=16∨k=17→n<16)(hi:σ.input.size≤24)(ho:σ.out.length≤16)(hcb:cb≠M)(hcz:cb<w.heap.size)
  (h1:aX (k*3)=1→n=0)(h2:aX (k*3)=2→2≤len∧w.cell? ⟨cb,co+1,none⟩=some (.int .u8 n)):
  Calls Tryz.prog 103 #[.pointer (some ⟨M,0,none⟩),.slice (some ⟨cb,co,none⟩) len cap,.int .i64 fuel] w (Out base M w (mq σ k n fuel)):=by
 unfold mq;by_cases e20:k=20
 ·subst e20;rw[if_pos rfl]
  obtain⟨a,b⟩:=h2 rfl
  exact Bj base M w vs vo σ cb co len cap n fuel hc0 hx0 hx1 h3 hT h h0M hn hn' a b hcb hcz
 rw[if_neg e20];have hk20:((k:Int) !=20)=true:=by rw[bne_iff_ne];omega
 by_cases es:σ.steps=fuel
 ·rw[if_pos es];exact DG base M w vs vo σ cb co len cap k fuel hk20 hc0 hl (by rw[beq_iff_eq];exact es) h
 rw[if_neg es];have hz:(σ.steps==fuel)=false:=by rw[beq_eq_false_iff_ne];exact es
 by_cases er:bT σ.stack.length (aX (k*3+1)) (aX (k*3+2))≠0
 ·rw[if_pos er];exact Bi base M w vs vo σ cb co len cap k fuel hk hk20 hc0 hl hz hs0 hs1 hx0 hx1 h3 hT h h0M _ rfl (by rw[bne_iff_ne];exact er)
 rw[if_neg er];have er0:=Classical.byContradiction er
 obtain⟨_,⟨t1,t2⟩,⟨l1,l2⟩⟩:=eP k hk
 have hm:=kY er0;have hq1:aI k≤σ.stack.length:=by unfold aI;omega
 have hq2:σ.stack.length-aI k+eO k≤32:=by unfold aI eO;omega
 have hr0:((0:Int) !=0)=false:=rfl;rcases DI k hk with⟨e1,ek⟩|e2
 ·have:=h1 e1
  subst this;exact GD base M w vs vo σ cb co len cap k fuel hk hk20 hc0 hl hz hs0 hs1 hx0 hx1 h3 hT h h0M 0 er0 hr0 e1 ek hi ho hq1 hq2
 ·obtain⟨a,b⟩:=h2 e2
  exact GF base M w vs vo σ cb co len cap k fuel hk hk20 hc0 hz hs0 hs1 hx0 hx1 h3 hT h h0M 0 er0 hr0 e2 n hn hn' hh a b hcb hcz hi ho hq1 hq2
end Go.Proofs.YtmpgjkhchfcjlaaGreatDoor
