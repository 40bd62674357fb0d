import Derived.Test.YtmpgjkhchfcjlaaGreatDoorRows
import Derived.WalkKit
import Derived.WalkSpells
import Derived.WalkLawsBesides
import Derived.BigQuiet
import Derived.Deep.QuietTactic
import Derived.Outline
import Derived.Maps.AppendAt
import Derived.Laws.CopyOwn
import Derived.Deep.RegionLaw
namespace Go.Proofs.YtmpgjkhchfcjlaaGreatDoor
open Go.RowKit
set_option maxHeartbeats 400000
theorem hid {P:Prop}(h:P):Hid P:=h
def aj:List Int:=[1,0,0,2,0,1,1,0,1,1,1,2,1,1,0,1,2,2,1,2,1,1,2,1,1,2,1,1,2,1,1,2,1,1,2,1,1,2,1,1,2,1,2,0,0,2,1,0,2,0,1,2,1,0,1,1,0,2,0,0,2,0,0]
def aX (k:Nat):Int:=aj.getD k 0
def bK (w:World):Prop:=∀k:Nat,k<63→w.cell? ⟨0,k,none⟩=some (.int .i64 (aX k))
theorem bK.pos {w:World}(hT:bK w):0<w.heap.size:=World.block_lt_of_cell? w ⟨0,0,none⟩ (hT 0 (by omega))
theorem ak (k:Nat)(hk:k≤20)(w:World)(hT:bK w):
  Calls Tryz.prog 112 #[.int .u8 (k:Int)] w fun e w'=>e=.returned (.agg #[.int .i64 (aX (k*3)),.int .i64 (aX (k*3+1)),.int .i64 (aX (k*3+2))])∧∃c,w'=w.alloc (.cells c 176):=by
 have h0:=hT (k*3) (by omega);have h1:=hT (k*3+1) (by omega);have h2:=hT (k*3+2) (by omega);have hz:=hT.pos;clear hT;go_in;go_wp2;refine bodyPost_ret (v:=.agg #[.int .i64 (aX (k*3)),.int .i64 (aX (k*3+1)),.int .i64 (aX (k*3+2))]) (by simp[results,Tryz.results112,go_sem]) rfl ⟨rfl,_,rfl⟩
structure St where
 stack:List Int
 cells:Nat→Int
 input:ByteArray
 out:List Int
 next:Int
 kind:Int
 fault:Int
 place:Int
 steps:Int
 ended:Bool
def ig (vs vo:Value)(σ:St)(j:Nat):Value:=
 if j=0 then vs else if j<17 then .int .u16 (σ.cells (j-1))else if j=17 then .string σ.input else if j=18 then vo else if j=19 then .int .i64 σ.next else if j=20 then .int .i64 σ.kind else if j=21 then .int .i64 σ.fault else if j=22 then .int .i64 σ.place else if j=23 then .string ByteArray.empty else if j=24 then .int .i64 σ.steps else if j=25 then .bool σ.ended else .bool false
structure Kept (B M:Nat) (w w':World):Prop where
 os:w'.os=w.os
 tape:w'.tape=w.tape
 output:w'.output=w.output
 size:w.heap.size≤w'.heap.size
 block:∀k,k<B→k≠M→w'.heap[k]?=w.heap[k]?
theorem Kept.refl (B M:Nat)(w:World):Kept B M w w:=⟨rfl,rfl,rfl,Nat.le_refl _,fun _ _ _=>rfl⟩
theorem Kept.trans {B M:Nat}{a b c:World}(h:Kept B M a b)(k:Kept B M b c):Kept B M a c:=
 ⟨k.os.trans h.os,k.tape.trans h.tape,k.output.trans h.output,Nat.le_trans h.size k.size,fun i hi hm=>(k.block i hi hm).trans (h.block i hi hm)⟩
theorem Kept.dZ {B M:Nat}{w w':World}(h:Below B w w'):Kept B M w w':=⟨h.os,h.tape,h.output,h.size,fun k hk _=>h.block k hk⟩
theorem Kept.set (B M:Nat)(w:World)(j:Nat)(u:Value):Kept B M w (w.setCell ⟨M,j,none⟩ u):=
 ⟨rfl,rfl,rfl,by simp,fun k _ hk=>heap_setCell_other w ⟨M,j,none⟩ k u hk⟩
theorem Kept.alloc {B M:Nat}(w:World)(hB:B≤w.heap.size)(o:Obj):Kept B M w (w.alloc o):=Kept.dZ ((Below.refl B w).alloc hB o)
theorem Kept.cell {B M:Nat}{w w':World}(h:Kept B M w w'){p:Addr}(hp:p.block<B)(hm:p.block≠M):w'.cell? p=w.cell? p:=World.cell?_of_block (w:=w) (h.block p.block hp hm)
theorem Kept.frozen {B M:Nat}{w w':World}(h:Kept B M w w'){p:Addr}(hp:p.block<B)(hm:p.block≠M):w'.frozen? p=w.frozen? p:=World.frozen?_of_block (w:=w) (h.block p.block hp hm)
theorem Kept.tab {B M:Nat}{w w':World}(h:Kept B M w w')(h0:0<M)(hM:M<B)(t:bK w):bK w':=
 fun k hk=>(h.cell (p:=⟨0,k,none⟩) (show(0:Nat)<B by omega) (show(0:Nat)≠M by omega)).trans (t k hk)
structure MS (base M:Nat) (w:World) (vs vo:Value) (σ:St):Prop where
 cell:∀j,j<26→w.cell? ⟨M,j,none⟩=some (ig vs vo σ j)
 thaw:∀j,w.frozen? ⟨M,j,none⟩=false
 bI:w.ownsRow base 158 1 vs σ.stack.length (σ.stack.map (Value.int .u16))
 bR:w.ownsRow base 5 1 vo σ.out.length (σ.out.map (Value.int .u8))
 apart:vs.ownBlock=none∨vs.ownBlock≠vo.ownBlock
 lt:M<base
 le:base≤w.heap.size
theorem bn {w:World}{base:Nat}{e:TypeId}{size:Nat}{v:Value}{n:Nat}{xs:List Value}(h:w.ownsRow base e size v n xs)(M j:Nat)(ha:M<base)(u:Value):(w.setCell ⟨M,j,none⟩ u).ownsRow base e size v n xs:=
 ownsRow_setCell_below h (a:=⟨M,j,none⟩) ha u
theorem MS.set {base M:Nat}{w:World}{vs vo:Value}{σ:St}(h:MS base M w vs vo σ)(i:Nat)(hi:i<26)(u:Value)(σ':St)
  (hv:∀j,j<26→ig vs vo σ' j=if j=i then u else ig vs vo σ j)(h1:σ'.stack=σ.stack)(h2:σ'.out=σ.out):MS base M (w.setCell ⟨M,i,none⟩ u) vs vo σ' where
 cell:=by
  intro j hj;rw[hv j hj];by_cases e:j=i
  ·subst e;rw[if_pos rfl];exact World.cell?_setCell_same _ _ _ (h.cell j hj)
  ·rw[if_neg e,World.cell?_setCell_other _ _ _ _ (fun c=>e (by injection c with _ c2 _;exact c2.symm))];exact h.cell j hj
 thaw:=fun j=>by rw[World.frozen?_setCell];exact h.thaw j
 bI:=by rw[h1];exact bn h.bI M i h.lt u
 bR:=by rw[h2];exact bn h.bR M i h.lt u
 apart:=h.apart
 lt:=h.lt
 le:=by simpa using h.le
theorem MS.lM {base M:Nat}{w:World}{vs vo:Value}{σ:St}(h:MS base M w vs vo σ)(n:Int):MS base M (w.setCell ⟨M,19,none⟩ (.int .i64 n)) vs vo {σ with next:=n}:=
 h.set 19 (by omega) _ _ (fun j _=>by by_cases e:j=19;(subst e;rfl);(rw[if_neg e];unfold ig;simp only[if_neg e])) rfl rfl
theorem MS.setKind {base M:Nat}{w:World}{vs vo:Value}{σ:St}(h:MS base M w vs vo σ)(n:Int):MS base M (w.setCell ⟨M,20,none⟩ (.int .i64 n)) vs vo {σ with kind:=n}:=
 h.set 20 (by omega) _ _ (fun j _=>by by_cases e:j=20;(subst e;rfl);(rw[if_neg e];unfold ig;simp only[if_neg e])) rfl rfl
theorem MS.qp {base M:Nat}{w:World}{vs vo:Value}{σ:St}(h:MS base M w vs vo σ)(n:Int):MS base M (w.setCell ⟨M,21,none⟩ (.int .i64 n)) vs vo {σ with fault:=n}:=
 h.set 21 (by omega) _ _ (fun j _=>by by_cases e:j=21;(subst e;rfl);(rw[if_neg e];unfold ig;simp only[if_neg e])) rfl rfl
theorem MS.qq {base M:Nat}{w:World}{vs vo:Value}{σ:St}(h:MS base M w vs vo σ)(n:Int):MS base M (w.setCell ⟨M,22,none⟩ (.int .i64 n)) vs vo {σ with place:=n}:=
 h.set 22 (by omega) _ _ (fun j _=>by by_cases e:j=22;(subst e;rfl);(rw[if_neg e];unfold ig;simp only[if_neg e])) rfl rfl
theorem MS.jL {base M:Nat}{w:World}{vs vo:Value}{σ:St}(h:MS base M w vs vo σ)(n:Int):MS base M (w.setCell ⟨M,24,none⟩ (.int .i64 n)) vs vo {σ with steps:=n}:=
 h.set 24 (by omega) _ _ (fun j _=>by by_cases e:j=24;(subst e;rfl);(rw[if_neg e];unfold ig;simp only[if_neg e])) rfl rfl
theorem MS.Dk {base M:Nat}{w:World}{vs vo:Value}{σ:St}(h:MS base M w vs vo σ)(b:Bool):MS base M (w.setCell ⟨M,25,none⟩ (.bool b)) vs vo {σ with ended:=b}:=
 h.set 25 (by omega) _ _ (fun j _=>by by_cases e:j=25;(subst e;rfl);(rw[if_neg e];unfold ig;simp only[if_neg e])) rfl rfl
theorem MS.setInput {base M:Nat}{w:World}{vs vo:Value}{σ:St}(h:MS base M w vs vo σ)(s:ByteArray):MS base M (w.setCell ⟨M,17,none⟩ (.string s)) vs vo {σ with input:=s}:=
 h.set 17 (by omega) _ _ (fun j _=>by by_cases e:j=17;(subst e;rfl);(rw[if_neg e];unfold ig;simp only[if_neg e])) rfl rfl
theorem MS.setCells {base M:Nat}{w:World}{vs vo:Value}{σ:St}(h:MS base M w vs vo σ)(n:Nat)(hn:n<16)(a:Int):MS base M (w.setCell ⟨M,1+n,none⟩ (.int .u16 a)) vs vo {σ with cells:=fun i=>if i=n then a else σ.cells i}:=
 h.set (1+n) (by omega) _ _ (fun j hj=>by
  unfold ig;by_cases e:j=1+n
  ·subst e;rw[if_pos rfl,if_neg (by omega),if_pos (by omega)];show Value.int _ (if 1+n-1=n then a else _)=_;rw[if_pos (by omega)]
  ·rw[if_neg e];by_cases e0:j=0
   ·rw[if_pos e0,if_pos e0]
   ·rw[if_neg e0,if_neg e0];by_cases e1:j<17
    ·rw[if_pos e1,if_pos e1];show Value.int _ (if j-1=n then a else _)=_;rw[if_neg (by omega)]
    ·rw[if_neg e1,if_neg e1]) rfl rfl
theorem MS.kept {base M:Nat}{w w':World}{vs vo:Value}{σ:St}(h:MS base M w vs vo σ)(hs:w.heap.size≤w'.heap.size)(hb:∀k,k<w.heap.size→w'.heap[k]?=w.heap[k]?):MS base M w' vs vo σ where
 cell:=fun j hj=>(World.cell?_of_block (w:=w) (a:=⟨M,j,none⟩) (hb M (Nat.lt_of_lt_of_le h.lt h.le))).trans (h.cell j hj)
 thaw:=fun j=>(World.frozen?_of_block (w:=w) (a:=⟨M,j,none⟩) (hb M (Nat.lt_of_lt_of_le h.lt h.le))).trans (h.thaw j)
 bI:=by
  refine⟨h.bI.1,?_⟩
  rcases h.bI.2 with hn|⟨g,cap,cur,hv,hg,hh,r⟩
  ·exact .inl hn
  ·exact .inr ⟨g,cap,cur,hv,hg,(hb g (Array.getElem?_eq_some_iff.1 hh).1).trans hh,r⟩
 bR:=by
  refine⟨h.bR.1,?_⟩
  rcases h.bR.2 with hn|⟨g,cap,cur,hv,hg,hh,r⟩
  ·exact .inl hn
  ·exact .inr ⟨g,cap,cur,hv,hg,(hb g (Array.getElem?_eq_some_iff.1 hh).1).trans hh,r⟩
 apart:=h.apart
 lt:=h.lt
 le:=Nat.le_trans h.le hs
theorem MS.alloc {base M:Nat}{w:World}{vs vo:Value}{σ:St}(h:MS base M w vs vo σ)(o:Obj):MS base M (w.alloc o) vs vo σ:=
 h.kept (by simp) (fun k hk=>Below.heap_alloc w o k hk)
theorem MS.drew {base M:Nat}{w:World}{vs vo:Value}{σ:St}(h:MS base M w vs vo σ):MS base M w.drew vs vo σ:=h.kept (Nat.le_refl _) (fun _ _=>rfl)
theorem ij (vs vo:Value)(σ:St):ig vs vo σ 0=vs:=rfl
theorem vg (vs vo:Value)(σ:St):ig vs vo σ 17=.string σ.input:=rfl
theorem Dl (vs vo:Value)(σ:St):ig vs vo σ 18=vo:=rfl
theorem k9 (vs vo:Value)(σ:St):ig vs vo σ 19=.int .i64 σ.next:=rfl
theorem G6 (vs vo:Value)(σ:St):ig vs vo σ 20=.int .i64 σ.kind:=rfl
theorem kX (vs vo:Value)(σ:St):ig vs vo σ 24=.int .i64 σ.steps:=rfl
theorem Dm (vs vo:Value)(σ:St):ig vs vo σ 25=.bool σ.ended:=rfl
def fin (σ:St)(kind fault:Int):St:={σ with kind:=kind,fault:=fault,ended:=true}
theorem lN (base M:Nat)(w:World)(vs vo:Value)(σ:St)(kind fault:Int)(h:MS base M w vs vo σ):
  Calls Tryz.prog 148 #[.pointer (some ⟨M,0,none⟩),.int .i64 kind,.int .i64 fault] w fun e w'=>e=.returned (.tuple #[])∧MS base M w' vs vo (fin σ kind fault)∧Kept base M w w':=by
 have c20:=h.cell 20 (by omega);have c21:=h.cell 21 (by omega);have c25:=h.cell 25 (by omega);have f20:=h.thaw 20;have f21:=h.thaw 21;have f25:=h.thaw 25;have R:MS base M (((w.setCell ⟨M,20,none⟩ (.int .i64 kind)).setCell ⟨M,21,none⟩ (.int .i64 fault)).setCell ⟨M,25,none⟩ (.bool true)) vs vo (fin σ kind fault):=((h.setKind kind).qp fault).Dk true;have K:Kept base M w (((w.setCell ⟨M,20,none⟩ (.int .i64 kind)).setCell ⟨M,21,none⟩ (.int .i64 fault)).setCell ⟨M,25,none⟩ (.bool true)):=((Kept.set _ _ _ _ _).trans (Kept.set _ _ _ _ _)).trans (Kept.set _ _ _ _ _);clear h;go_in;go_wp2;go_end0
 exact⟨rfl,R,K⟩
theorem Tryz.G7:(Tryz.prog.info? 158).map (fun i=>(i.zero,i.size,i.bytes))=some (some (.int .u16 0),1,2):=by kernel_rfl
theorem Tryz.kf:(Tryz.prog.info? 5).map (fun i=>(i.zero,i.size,i.bytes))=some (some (.int .u8 0),1,1):=by kernel_rfl
theorem dA {w:World}{base:Nat}{e:TypeId}{size:Nat}{v:Value}{n:Nat}{xs:List Value}(h:w.ownsRow base e size v n xs){k:Nat}(hk:k<base):some k≠v.ownBlock:=
 fun c=>by have:=(h.lt k c.symm).1;omega
theorem aB {w:World}{base:Nat}{e:TypeId}{size:Nat}{v:Value}{n:Nat}{xs:List Value}(h:w.ownsRow base e size v n xs)(hn:0<n):∃g cap,v=.slice (some ⟨g,0,none⟩) n cap:=by
 rcases h.2 with⟨_,h0⟩|⟨g,cap,cur,hv,_⟩
 ·omega
 ·exact⟨g,cap,hv⟩
theorem gM {base M:Nat}{w w1:World}{v:Value}{e:TypeId}{size n:Nat}{xs:List Value}(h:w.ownsRow base e size v n xs)(hle:base≤w.heap.size)(hg:w.grownBy w1 v.ownBlock):Kept base M w w1:=
 ⟨hg.os,hg.tape,hg.output,hg.size,fun k hk _=>hg.block k (by omega) (dA h hk)⟩
theorem nv {w w1:World}{base:Nat}{e:TypeId}{size:Nat}{v u:Value}{n:Nat}{xs:List Value}(h:w.ownsRow base e size v n xs)(hg:w.grownBy w1 u.ownBlock)(ha:u.ownBlock=none∨u.ownBlock≠v.ownBlock):w1.ownsRow base e size v n xs:=by
 refine h.kept hg ?_;rcases ha with ha|ha
 ·rw[ha];cases v.ownBlock<;>simp
 ·exact .inr (fun c=>ha c.symm)
theorem MS.tN {base M:Nat}{w w1:World}{vs vo v':Value}{σ:St}(h:MS base M w vs vo σ)(ns:List Int)(hg:w.grownBy w1 vs.ownBlock)
  (ho:w1.ownsRow base 158 1 v' (σ.stack.length+ns.length) (σ.stack.map (Value.int .u16)++ns.map (Value.int .u16)))(hat:v'.ownBlock=vs.ownBlock∨v'.ownBlock=some w.heap.size):
  MS base M (w1.setCell ⟨M,0,none⟩ v') v' vo {σ with stack:=σ.stack++ns} where
 cell:=by
  intro j hj;have hc:∀j,j<26→w1.cell? ⟨M,j,none⟩=some (ig vs vo σ j):=fun j hj=>hg.cell (a:=⟨M,j,none⟩) (h.cell j hj) (dA h.bI h.lt)
  by_cases e:j=0
  ·subst e;exact World.cell?_setCell_same _ _ _ (hc 0 hj)
  ·rw[World.cell?_setCell_other _ _ _ _ (fun c=>e (by injection c with _ c2 _;exact c2.symm)),hc j hj];unfold ig;simp only[if_neg e]
 thaw:=fun j=>by rw[World.frozen?_setCell,World.frozen?_of_block (w:=w) (a:=⟨M,j,none⟩) (hg.block M (Nat.lt_of_lt_of_le h.lt h.le) (dA h.bI h.lt))];exact h.thaw j
 bI:=by
  have:=bn ho M 0 h.lt v'
  simpa using this
 bR:=bn (nv h.bR hg h.apart) M 0 h.lt v'
 apart:=by
  rcases hat with e|e
  ·rw[e];exact h.apart
  ·right;rw[e];intro c;have:=(h.bR.lt _ c.symm).2;omega
 lt:=h.lt
 le:=by have:=hg.size;have:=h.le;simp;omega
theorem eD (base M:Nat)(w:World)(vs vo:Value)(σ:St)(a:Addr)(m c:Nat)(ns:List Int)(h:MS base M w vs vo σ)(hm:0<m)(hl:ns.length=m)
  (hc:∀j u,(ns.map (Value.int .u16))[j]?=some u→w.cell? (a.add j)=some u)(hb:σ.stack.length+m≤32):
  Calls Tryz.prog 183 #[.pointer (some ⟨M,0,none⟩),.slice (some a) m c] w fun e w'=>e=.returned (.tuple #[])∧(∃vs',MS base M w' vs' vo {σ with stack:=σ.stack++ns})∧Kept base M w w':=by
 obtain⟨i,hi,hz0,hz1,hz2⟩:=info_parts Tryz.G7
 have c0:=h.cell 0 (by omega);rw[ij]at c0;have f0:=h.thaw 0;go_in;go_wp2_with(at_builtin;refine wpList_append_own_at _ rfl (.tmp 8) (.tmp 9) 157 rfl base 158 i (.int .u16 0) 1 2 Tryz.underlying157 hi hz0 hz1 hz2 rfl (by decide) vs σ.stack.length _ rfl h.bI a m c (ns.map (Value.int .u16)) rfl ?c0 hc ?c2 (by unfold maxLen;omega) (by omega) h.le ?_)
 case c0=>simpa using hl
 case c2=>intro u hu;simp at hu;obtain⟨x,_,rfl⟩:=hu;rfl
 intro v' w1 hown' hgrow _ hat;subst hl;have R:=h.tN ns hgrow hown' hat;have K:=(gM (M:=M) h.bI h.le hgrow).trans (Kept.set base M w1 0 v')
 obtain⟨g',cap',hv'⟩:=aB hown' (by omega)
 have hne:=dA h.bI h.lt;have hv1:=hgrow.cell (a:=⟨M,0,none⟩) c0 hne;have hf1:w1.frozen? ⟨M,0,none⟩=false:=by
  rw[World.frozen?_of_block (w:=w) (a:=⟨M,0,none⟩) (hgrow.block M (Nat.lt_of_lt_of_le h.lt h.le) hne)];exact f0
 have HR:=R;rw[hv']at R K⊢;clear hown' hgrow hat h hc;go_wp2;go_end0
 exact⟨rfl,⟨_,R⟩,K⟩
theorem Tryz.nw:(Tryz.prog.info? 158).map (·.size)=some 1:=by kernel_rfl
theorem MS.Dn {base M:Nat}{w w2:World}{vo:Value}{σ:St}{g n cap:Nat}(h:MS base M w (.slice (some ⟨g,0,none⟩) n cap) vo σ)(hn:σ.stack.length=n)(hb:Below w.heap.size w w2)(q:Nat)(hq:q≤n):
  MS base M (w2.setCell ⟨M,0,none⟩ (.slice (some ⟨g,0,none⟩) q cap)) (.slice (some ⟨g,0,none⟩) q cap) vo {σ with stack:=σ.stack.take q}:=by
 have h2:=h.kept hb.size hb.block;subst hn
 exact{
  cell:=by
   intro j hj;by_cases e:j=0
   ·subst e;exact World.cell?_setCell_same _ _ _ (h2.cell 0 hj)
   ·rw[World.cell?_setCell_other _ _ _ _ (fun c=>e (by injection c with _ c2 _;exact c2.symm)),h2.cell j hj];unfold ig;simp only[if_neg e]
  thaw:=fun j=>by rw[World.frozen?_setCell];exact h2.thaw j
  bI:=by
   refine bn ?_ M 0 h.lt _
   refine⟨by simp,?_⟩
   rcases h2.bI.2 with⟨h0,_⟩|⟨g',cap',cur,hv,hg,hh,hn,hcap,hsz,htake⟩
   ·cases h0
   ·cases hv;have e:(σ.stack.take q).length=q:=by simp;omega
    refine .inr ⟨g,cap,cur,by simp only[e],hg,hh,by simp only[e];omega,hcap,hsz,?_⟩;simp only[e,Nat.mul_one]at htake⊢;rw[List.map_take,←htake,List.take_take,Nat.min_eq_left hq]
  bR:=bn h2.bR M 0 h.lt _
  apart:=h.apart
  lt:=h.lt
  le:=by have:=h2.le;simp;omega}
theorem ir {base M:Nat}{w w2:World}(hle:base≤w.heap.size)(hb:Below w.heap.size w w2)(v:Value):Kept base M w (w2.setCell ⟨M,0,none⟩ v):=
 (Kept.dZ (hb.mono hle)).trans (Kept.set _ _ _ _ _)
theorem vh {w:World}{base:Nat}{e:TypeId}{g n cap:Nat}{xs:List Value}(h:w.ownsRow base e 1 (.slice (some ⟨g,0,none⟩) n cap) n xs):n≤cap∧cap≤9223372036854775807:=by
 rcases h.2 with⟨h0,_⟩|⟨g',cap',cur,hv,hg,hh,hn,hcap,_⟩
 ·cases h0
 ·cases hv;unfold maxLen at hcap;exact⟨hn,by omega⟩
theorem Kept.drewN {B M:Nat}{w w':World}(h:Kept B M w w')(n:Nat):Kept B M w (w'.drewN n):=⟨h.os,h.tape,h.output,h.size,h.block⟩
theorem sA {w:World}{base:Nat}{e:TypeId}{g n cap:Nat}{l:List Int}(ho:w.ownsRow base e 1 (.slice (some ⟨g,0,none⟩) n cap) n (l.map (Value.int .u16)))(hn:l.length=n)(o:Obj)(q:Nat)(xs:List Int)(hxs:∀j x,xs[j]?=some x→l[q+j]?=some x):
  ∀j v,(xs.map (Value.int .u16))[j]?=some v→(w.alloc o).drew.cell? ((⟨g,q,none⟩:Addr).add j)=some v:=by
 intro j v hj;rw[List.getElem?_map,Option.map_eq_some_iff]at hj
 obtain⟨x,hx,rfl⟩:=hj
 have h1:=hxs j x hx;have hlt:q+j<n:=by rw[←hn];exact(List.getElem?_eq_some_iff.1 h1).1
 have hg:g<w.heap.size:=(ho.lt g rfl).2
 have:=ho.cellAt (q+j) (by omega)
 have hadd:(⟨g,q,none⟩:Addr).add j=⟨g,q+j,none⟩:=by unfold Addr.add;split<;>simp_all
 rw[World.cell?_drew,hadd,World.cell?_alloc_past _ _ _ hg,this,List.getElem?_map,h1];rfl
theorem take_one (base M:Nat)(w:World)(vs vo:Value)(σ:St)(q:Nat)(hq:σ.stack.length=q+1)(hm:q<32)(h:MS base M w vs vo σ):
  Calls Tryz.prog 181 #[.pointer (some ⟨M,0,none⟩),.int .i64 1] w fun e w'=>e=.returned (.tuple #[.int .u16 (σ.stack.getD q 0),.int .u16 0])∧(∃vs',MS base M w' vs' vo {σ with stack:=σ.stack.take q})∧Kept base M w w':=by
 have c0:=h.cell 0 (by omega);rw[ij]at c0;have f0:=h.thaw 0
 obtain⟨g,cap,hv⟩:=aB h.bI (by omega)
 rw[hq]at hv;subst hv;have hM:=Nat.lt_of_lt_of_le h.lt h.le;have ho:=h.bI;rw[hq]at ho
 obtain⟨hcap,hm2⟩:=vh ho
 have hi1:(q:Int)≤(q:Int)+1:=by omega
 have hcq:¬cap=q:=by omega
 obtain⟨x,hx⟩:∃x,x=σ.stack.getD q 0:=⟨_,rfl⟩
 have hsrc:Hid (∀j v,[Value.int .u16 x][j]?=some v→(w.alloc (.cells #[.int .u16 0,.int .u16 0] 265)).drew.cell? ((⟨g,q,none⟩:Addr).add j)=some v):=by
  refine sA ho hq _ q [x] ?_;intro j z hj;match j,hj with
  |0,hj=>simp at hj;subst hj;rw[hx,Nat.add_zero];simp[hq]
 have H:=h;have HQ:=hid hq;rw[←hx];clear hx h ho hq;go_in;go_wp2;go_region_law(refine step_copy_splice (by rfl) (.tmp 15) (.tmp 21) 157 157 (by rfl) 158 Tryz.underlying157 Tryz.nw _ _ 2 2 1 (cap-q) (by rfl) (by rfl) w.heap.size 0 [.int .u16 0,.int .u16 0] 265 (by exact heap_alloc_new w _) [Value.int .u16 x] (by rfl) (fun _=>⟨by rfl,⟨g,q,none⟩,by rfl,hsrc.out⟩) (by simp) (by intro v hv;simp at hv;subst hv;rfl) w.heap.size w (by exact((Below.refl _ _).alloc (Nat.le_refl _) _).drew) (Nat.le_refl _) ?_;intro w2 HG2 hB2)
 have e2:=cell_of_row w2 w.heap.size 0 _ _ _ HG2.out;have e3:=cell_of_row w2 w.heap.size 1 _ _ _ HG2.out;simp[splice]at e2 e3;have hc2:w2.cell? ⟨M,0,none⟩=some (Value.slice (some ⟨g,0,none⟩) (q+1) cap):=(hB2.cell (p:=⟨M,0,none⟩) hM).trans c0;have hf2:w2.frozen? ⟨M,0,none⟩=false:=(hB2.frozen (p:=⟨M,0,none⟩) hM).trans f0;have R:=H.Dn HQ.out hB2 q (by omega);have K:=ir (M:=M) H.le hB2 (.slice (some ⟨g,0,none⟩) q cap);have hne:w.heap.size≠M:=by omega
 clear HG2 hB2 hsrc H;go_wp2;go_quiet(fail)
 go_wp2;go_ret2
 exact⟨rfl,⟨_,R.kept (Nat.le_refl _) (fun _ _=>rfl)⟩,K.drewN _⟩
theorem Dp (base M:Nat)(w:World)(vs vo:Value)(σ:St)(q:Nat)(hq:σ.stack.length=q+2)(hm:q<32)(h:MS base M w vs vo σ):
  Calls Tryz.prog 181 #[.pointer (some ⟨M,0,none⟩),.int .i64 2] w fun e w'=>e=.returned (.tuple #[.int .u16 (σ.stack.getD q 0),.int .u16 (σ.stack.getD (q+1) 0)])∧(∃vs',MS base M w' vs' vo {σ with stack:=σ.stack.take q})∧Kept base M w w':=by
 have c0:=h.cell 0 (by omega);rw[ij]at c0;have f0:=h.thaw 0
 obtain⟨g,cap,hv⟩:=aB h.bI (by omega)
 rw[hq]at hv;subst hv;have hM:=Nat.lt_of_lt_of_le h.lt h.le;have ho:=h.bI;rw[hq]at ho
 obtain⟨hcap,hm2⟩:=vh ho
 have hi1:(q:Int)≤(q:Int)+2:=by omega
 have hcq:¬cap=q:=by omega
 obtain⟨x,hx⟩:∃x,x=σ.stack.getD q 0:=⟨_,rfl⟩
 obtain⟨y,hy⟩:∃y,y=σ.stack.getD (q+1) 0:=⟨_,rfl⟩
 have hsrc:Hid (∀j v,[Value.int .u16 x,Value.int .u16 y][j]?=some v→(w.alloc (.cells #[.int .u16 0,.int .u16 0] 265)).drew.cell? ((⟨g,q,none⟩:Addr).add j)=some v):=by
  refine sA ho hq _ q [x,y] ?_;intro j z hj;match j,hj with
  |0,hj=>simp at hj;subst hj;rw[hx,Nat.add_zero];simp[hq]
  |1,hj=>simp at hj;subst hj;rw[hy];simp[hq]
 have H:=h;have HQ:=hid hq;rw[←hx,←hy];clear hx hy h ho hq;go_in;go_wp2;go_region_law(refine step_copy_splice (by rfl) (.tmp 15) (.tmp 21) 157 157 (by rfl) 158 Tryz.underlying157 Tryz.nw _ _ 2 2 2 (cap-q) (by rfl) (by rfl) w.heap.size 0 [.int .u16 0,.int .u16 0] 265 (by exact heap_alloc_new w _) [Value.int .u16 x,Value.int .u16 y] (by rfl) (fun _=>⟨by rfl,⟨g,q,none⟩,by rfl,hsrc.out⟩) (by simp) (by intro v hv;simp at hv;rcases hv with hv|hv<;>subst hv<;>rfl) w.heap.size w (by exact((Below.refl _ _).alloc (Nat.le_refl _) _).drew) (Nat.le_refl _) ?_;intro w2 HG2 hB2)
 have e2:=cell_of_row w2 w.heap.size 0 _ _ _ HG2.out;have e3:=cell_of_row w2 w.heap.size 1 _ _ _ HG2.out;simp[splice]at e2 e3;have hc2:w2.cell? ⟨M,0,none⟩=some (Value.slice (some ⟨g,0,none⟩) (q+2) cap):=(hB2.cell (p:=⟨M,0,none⟩) hM).trans c0;have hf2:w2.frozen? ⟨M,0,none⟩=false:=(hB2.frozen (p:=⟨M,0,none⟩) hM).trans f0;have R:=H.Dn HQ.out hB2 q (by omega);have K:=ir (M:=M) H.le hB2 (.slice (some ⟨g,0,none⟩) q cap);have hne:w.heap.size≠M:=by omega
 clear HG2 hB2 hsrc H;go_wp2;go_quiet(fail)
 go_wp2;go_ret2
 exact⟨rfl,⟨_,R.kept (Nat.le_refl _) (fun _ _=>rfl)⟩,K.drewN _⟩
theorem MS.same {base M:Nat}{w w2:World}{vs vo:Value}{σ:St}(h:MS base M w vs vo σ)(hb:Below w.heap.size w w2):MS base M (w2.setCell ⟨M,0,none⟩ vs) vs vo σ:=
 (h.kept hb.size hb.block).set 0 (by omega) vs σ (fun j _=>by by_cases e:j=0;(subst e;rfl);(rw[if_neg e])) rfl rfl
theorem take_zero (base M:Nat)(w:World)(vs vo:Value)(σ:St)(hm:σ.stack.length≤32)(h:MS base M w vs vo σ):
  Calls Tryz.prog 181 #[.pointer (some ⟨M,0,none⟩),.int .i64 0] w fun e w'=>e=.returned (.tuple #[.int .u16 0,.int .u16 0])∧(∃vs',MS base M w' vs' vo σ)∧Kept base M w w':=by
 have c0:=h.cell 0 (by omega);rw[ij]at c0;have f0:=h.thaw 0;have hM:=Nat.lt_of_lt_of_le h.lt h.le;have hne:w.heap.size≠M:=by omega
 have hv:∃ao n cap,vs=.slice ao n cap∧n=σ.stack.length∧n≤cap∧cap≤9223372036854775807∧(ao=none→n=0∧cap=0):=by
  rcases h.bI.2 with⟨e,h0⟩|⟨g,cap,cur,hv,_,_,hn,hcap,_⟩
  ·exact⟨none,0,0,e,h0.symm,Nat.le_refl _,by omega,fun _=>⟨rfl,rfl⟩⟩
  ·unfold maxLen at hcap;exact⟨_,_,cap,hv,rfl,hn,by omega,fun c=>by cases c⟩
 obtain⟨ao,n,cap,rfl,hn,hcap,hm2,hnil⟩:=hv
 have H:=h;have hn32:n≤32:=by omega
 clear h hn;have hi1:(n:Int)≤(n:Int):=by omega
 cases ao with
 |none=>
  obtain⟨rfl,rfl⟩:=hnil rfl
  go_in;go_wp2;go_region_law(refine step_copy_splice (by rfl) (.tmp 15) (.tmp 21) 157 157 (by rfl) 158 Tryz.underlying157 Tryz.nw _ _ 2 2 0 _ (by rfl) (by rfl) w.heap.size 0 [.int .u16 0,.int .u16 0] 265 (by exact heap_alloc_new w _) [] (by rfl) (fun c=>absurd c (by simp)) (by simp) (by intro v hv;simp at hv) w.heap.size w (by exact((Below.refl _ _).alloc (Nat.le_refl _) _).drew) (Nat.le_refl _) ?_;intro w2 HG2 hB2)
  have e2:=cell_of_row w2 w.heap.size 0 _ _ _ HG2.out;have e3:=cell_of_row w2 w.heap.size 1 _ _ _ HG2.out;simp[splice]at e2 e3;have hc2:w2.cell? ⟨M,0,none⟩=some (Value.slice none 0 0):=(hB2.cell (p:=⟨M,0,none⟩) hM).trans c0;have hf2:w2.frozen? ⟨M,0,none⟩=false:=(hB2.frozen (p:=⟨M,0,none⟩) hM).trans f0;have R:=H.same hB2;have K:=ir (M:=M) H.le hB2 (.slice none 0 0);clear HG2 hB2 H;go_wp2;go_quiet(fail)
  go_wp2;go_ret2
  exact⟨rfl,⟨_,R.kept (Nat.le_refl _) (fun _ _=>rfl)⟩,K.drewN _⟩
 |some ad=>
  clear hnil;by_cases hcn:cap=n
  ·subst hcn;go_in;go_wp2;go_region_law(refine step_copy_splice (by rfl) (.tmp 15) (.tmp 21) 157 157 (by rfl) 158 Tryz.underlying157 Tryz.nw _ _ 2 2 0 _ (by rfl) (by rfl) w.heap.size 0 [.int .u16 0,.int .u16 0] 265 (by exact heap_alloc_new w _) [] (by rfl) (fun c=>absurd c (by simp)) (by simp) (by intro v hv;simp at hv) w.heap.size w (by exact((Below.refl _ _).alloc (Nat.le_refl _) _).drew) (Nat.le_refl _) ?_;intro w2 HG2 hB2)
   have e2:=cell_of_row w2 w.heap.size 0 _ _ _ HG2.out;have e3:=cell_of_row w2 w.heap.size 1 _ _ _ HG2.out;simp[splice]at e2 e3;have hc2:w2.cell? ⟨M,0,none⟩=some (Value.slice (some ad) cap cap):=(hB2.cell (p:=⟨M,0,none⟩) hM).trans c0;have hf2:w2.frozen? ⟨M,0,none⟩=false:=(hB2.frozen (p:=⟨M,0,none⟩) hM).trans f0;have R:=H.same hB2;have K:=ir (M:=M) H.le hB2 (.slice (some ad) cap cap);clear HG2 hB2 H;go_wp2;go_quiet(fail)
   go_wp2;go_ret2
   exact⟨rfl,⟨_,R.kept (Nat.le_refl _) (fun _ _=>rfl)⟩,K.drewN _⟩
  ·have hcn':¬n=cap:=fun c=>hcn c.symm
   go_in;go_wp2;go_region_law(refine step_copy_splice (by rfl) (.tmp 15) (.tmp 21) 157 157 (by rfl) 158 Tryz.underlying157 Tryz.nw _ _ 2 2 0 _ (by rfl) (by rfl) w.heap.size 0 [.int .u16 0,.int .u16 0] 265 (by exact heap_alloc_new w _) [] (by rfl) (fun c=>absurd c (by simp)) (by simp) (by intro v hv;simp at hv) w.heap.size w (by exact((Below.refl _ _).alloc (Nat.le_refl _) _).drew) (Nat.le_refl _) ?_;intro w2 HG2 hB2)
   have e2:=cell_of_row w2 w.heap.size 0 _ _ _ HG2.out;have e3:=cell_of_row w2 w.heap.size 1 _ _ _ HG2.out;simp[splice]at e2 e3;have hc2:w2.cell? ⟨M,0,none⟩=some (Value.slice (some ad) n cap):=(hB2.cell (p:=⟨M,0,none⟩) hM).trans c0;have hf2:w2.frozen? ⟨M,0,none⟩=false:=(hB2.frozen (p:=⟨M,0,none⟩) hM).trans f0;have R:=H.same hB2;have K:=ir (M:=M) H.le hB2 (.slice (some ad) n cap);clear HG2 hB2 H;go_wp2;go_quiet(fail)
   go_wp2;go_ret2
   exact⟨rfl,⟨_,R.kept (Nat.le_refl _) (fun _ _=>rfl)⟩,K.drewN _⟩
theorem MS.Jk {base M:Nat}{w w1:World}{vs vo v':Value}{σ:St}(h:MS base M w vs vo σ)(ns:List Int)(hg:w.grownBy w1 vo.ownBlock)
  (ho:w1.ownsRow base 5 1 v' (σ.out.length+ns.length) (σ.out.map (Value.int .u8)++ns.map (Value.int .u8)))(hat:v'.ownBlock=vo.ownBlock∨v'.ownBlock=some w.heap.size):
  MS base M (w1.setCell ⟨M,18,none⟩ v') vs v' {σ with out:=σ.out++ns} where
 cell:=by
  intro j hj;have hc:∀j,j<26→w1.cell? ⟨M,j,none⟩=some (ig vs vo σ j):=fun j hj=>hg.cell (a:=⟨M,j,none⟩) (h.cell j hj) (dA h.bR h.lt)
  by_cases e:j=18
  ·subst e;exact World.cell?_setCell_same _ _ _ (hc 18 hj)
  ·rw[World.cell?_setCell_other _ _ _ _ (fun c=>e (by injection c with _ c2 _;exact c2.symm)),hc j hj];unfold ig;simp only[if_neg e]
 thaw:=fun j=>by rw[World.frozen?_setCell,World.frozen?_of_block (w:=w) (a:=⟨M,j,none⟩) (hg.block M (Nat.lt_of_lt_of_le h.lt h.le) (dA h.bR h.lt))];exact h.thaw j
 bI:=by
  refine bn (h.bI.kept hg ?_) M 18 h.lt v';rcases h.apart with ha|ha
  ·exact .inl ha
  ·exact .inr ha
 bR:=by
  have:=bn ho M 18 h.lt v'
  simpa using this
 apart:=by
  rcases hat with e|e
  ·rw[e];exact h.apart
  ·cases hv:vs.ownBlock with
   |none=>exact .inl rfl
   |some k=>right;rw[e];intro c;have:=(h.bI.lt k hv).2;injection c with c;omega
 lt:=h.lt
 le:=by have:=hg.size;have:=h.le;simp;omega
def vn (σ:St)(b:Int):St:=if σ.out.length=16 then fin σ 1 4 else{σ with out:=σ.out++[b]}
theorem G8 (base M:Nat)(w:World)(vs vo:Value)(σ:St)(b:Int)(h:MS base M w vs vo σ)(hb:σ.out.length≤16):
  Calls Tryz.prog 185 #[.pointer (some ⟨M,0,none⟩),.int .u8 b] w fun e w'=>e=.returned (.tuple #[])∧(∃vo',MS base M w' vs vo' (vn σ b))∧Kept base M w w':=by
 obtain⟨i,hi,hz0,hz1,hz2⟩:=info_parts Tryz.kf
 have c0:=h.cell 18 (by omega);rw[Dl]at c0;have f0:=h.thaw 18;have hlen:∃ao cap,vo=.slice ao σ.out.length cap:=by
  rcases h.bR.2 with⟨e,h0⟩|⟨g,cap,cur,hv,_⟩
  ·exact⟨none,0,by rw[h0];exact e⟩
  ·exact⟨_,_,hv⟩
 obtain⟨ao,cap,hvo⟩:=hlen
 subst hvo;unfold vn;by_cases hf:σ.out.length=16
 ·rw[if_pos hf];have hd:((σ.out.length:Int)==16)=true:=by rw[beq_iff_eq];omega
  clear hf;go_in;go_wp2_with(go_at_call 148;refine(lN base M _ _ _ σ 1 4 h).mono ?_;rintro e w' ⟨rfl,hR,hK⟩)
  exact bodyPost_ret (results_none rfl _ _ _) rfl ⟨rfl,⟨_,hR⟩,hK⟩
 ·rw[if_neg hf];have hd:((σ.out.length:Int)==16)=false:=by rw[beq_eq_false_iff_ne];omega
  have hlt:σ.out.length<16:=by omega
  clear hf;go_in;go_wp2_with(at_builtin;refine wpList_append_own_at _ rfl (.tmp 16) (.tmp 18) 39 rfl base 5 i (.int .u8 0) 1 1 Tryz.underlying39 hi hz0 hz1 hz2 rfl (by decide) _ σ.out.length _ rfl (h.bR.alloc _) ⟨w.heap.size,0,none⟩ 1 1 [.int .u8 b] rfl rfl (cell_one_new _ _ _) ?c2 (by unfold maxLen;omega) (by omega) (by have:=h.le;simp;omega) ?_)
  case c2=>intro u hu;simp at hu;subst hu;rfl
  intro v' w1 hown' hgrow _ hat;have h1:=h.alloc (.cells #[.int .u8 b] 5);have R:=h1.Jk [b] hgrow hown' (by simpa using hat);have K:=((Kept.alloc (M:=M) w h.le (.cells #[.int .u8 b] 5)).trans (gM (M:=M) h1.bR h1.le hgrow)).trans (Kept.set base M w1 18 v')
  obtain⟨g',cap',hv'⟩:=aB hown' (by omega)
  have hne:=dA h.bR h.lt;have hv1:=hgrow.cell (a:=⟨M,18,none⟩) (h1.cell 18 (by omega)) hne;have hf1:w1.frozen? ⟨M,18,none⟩=false:=by
   rw[World.frozen?_of_block (w:=w.alloc (.cells #[.int .u8 b] 5)) (a:=⟨M,18,none⟩) (hgrow.block M (Nat.lt_of_lt_of_le h1.lt h1.le) hne)];exact h1.thaw 18
  rw[hv']at R K⊢;clear hown' hgrow hat h h1;go_wp2;go_end0
  exact⟨rfl,⟨_,R⟩,K⟩
theorem Bd (b:Bool)(w:World):Calls Tryz.prog 184 #[.bool b] w fun e w'=>e=.returned (.int .u16 (if b then 1 else 0))∧w'=w:=by
 cases b
 ·go_in;go_wp2;go_ret
  exact⟨rfl,rfl⟩
 ·go_in;go_wp2;go_ret
  exact⟨rfl,rfl⟩
def bT (d t l:Int):Int:=if d-t<0 then 2 else if 32<d-t+l then 3 else 0
theorem kg (d s t l:Int)(w:World)(hd:0≤d)(hd':d≤32)(ht:0≤t)(ht':t≤2)(hl:0≤l)(hl':l≤2):
  Calls Tryz.prog 149 #[.int .i64 d,.agg #[.int .i64 s,.int .i64 t,.int .i64 l]] w fun e w'=>e=.returned (.int .i64 (bT d t l))∧∃c,w'=w.alloc (.cells c 176):=by
 unfold bT;by_cases h1:d-t<0
 ·rw[if_pos h1];go_in;go_wp2;go_ret
  exact⟨rfl,_,rfl⟩
 ·rw[if_neg h1];by_cases h2:32<d-t+l
  ·rw[if_pos h2];go_in;go_wp2;go_ret
   exact⟨rfl,_,rfl⟩
  ·rw[if_neg h2];go_in;go_wp2;go_ret
   exact⟨rfl,_,rfl⟩
end Go.Proofs.YtmpgjkhchfcjlaaGreatDoor
