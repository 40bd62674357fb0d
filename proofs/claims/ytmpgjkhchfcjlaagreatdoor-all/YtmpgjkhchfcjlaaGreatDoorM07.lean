import Derived.Test.YtmpgjkhchfcjlaaGreatDoorM06
import Derived.Laws.BytesArg
import Derived.Deep.LoopGhost
namespace Go.Proofs.YtmpgjkhchfcjlaaGreatDoor
open Go.RowKit
set_option maxRecDepth 100000
set_option maxHeartbeats 1000000
theorem MS.other {base M S:Nat}{w w':World}{vs vo:Value}{σ:St}(h:MS base M w vs vo σ)(hO:di S w w')(hSM:S≠M)(hSb:S<base):MS base M w' vs vo σ where
 cell:=fun j hj=>(World.cell?_of_block (w:=w) (a:=⟨M,j,none⟩) (hO.block M (fun c=>hSM c.symm))).trans (h.cell j hj)
 thaw:=fun j=>(World.frozen?_of_block (w:=w) (a:=⟨M,j,none⟩) (hO.block M (fun c=>hSM c.symm))).trans (h.thaw j)
 bI:=by
  refine⟨h.bI.1,?_⟩
  rcases h.bI.2 with hn|⟨g,cap,cur,hv,hg,hh,r⟩
  ·exact .inl hn
  ·exact .inr ⟨g,cap,cur,hv,hg,(hO.block g (by omega)).trans hh,r⟩
 bR:=by
  refine⟨h.bR.1,?_⟩
  rcases h.bR.2 with hn|⟨g,cap,cur,hv,hg,hh,r⟩
  ·exact .inl hn
  ·exact .inr ⟨g,cap,cur,hv,hg,(hO.block g (by omega)).trans hh,r⟩
 apart:=h.apart
 lt:=h.lt
 le:=by rw[hO.size];exact h.le
theorem aH {B:Nat}{a w:World}(h:Below B a w)(j:Nat)(u:Value):Below B a (w.setCell ⟨B,j,none⟩ u):=h.setCell (p:=⟨B,j,none⟩) (Nat.le_refl _) u
theorem qG {w:World}{base:Nat}{vo:Value}{out:List Int}(h:w.ownsRow base 5 1 vo out.length (out.map (Value.int .u8))):
  (convert 39 9 vo).run Tryz.prog w=.ok (.string (strOfNums out)) w:=by
 rcases h.2 with⟨e,h0⟩|⟨g,cap,cur,hv,hg,hh,hn,hcap,hsz,htake⟩
 ·have:out=[]:=List.eq_nil_of_length_eq_zero h0
  subst this;rw[e];exact run_convert_bytes_nil w 39 5 Tryz.underlying39 Tryz.underlying5 0 0 9 Tryz.underlying9
 ·subst hv;refine run_convert_bytes_arg w 39 5 Tryz.underlying39 Tryz.underlying5 g 0 out.length cap out rfl (fun i hi=> ?_) 9 Tryz.underlying9
  have:=h.cellAt i (by omega)
  rw[Nat.zero_add,this,List.getElem?_map,List.getElem?_eq_getElem hi];simp[List.getD,List.getElem?_eq_getElem hi]
section
variable {P:Program} {w:World} {ops:Array Oper} {rest:List Oper} {o:Oper} {a:Act} {Q:Exit→Act→World→Prop}
theorem eR (hgd:o.guard=none)(t:TypeId)(ho:o.op=.alloc t)(cs:Array Value)(hrun:∀w,(Instr.alloc t true (.tuple #[])).run P w=.ok (.pointer (some ⟨w.heap.size,0,none⟩)) (w.alloc (.cells cs t)))
  (h:wpList P ops Q rest (a.put o.dst (.pointer (some ⟨w.heap.size,0,none⟩))) (w.alloc (.cells cs t))):wpList P ops Q (o::rest) a w:=by
 refine wpList_plain hgd fun K hK=> ?_
 unfold Oper.wp execOp;simp only[ho,hrun,Sem.run_bind,Sem.run_pure,Result.andThen_ok];exact hK _ _ h
theorem iW (hgd:o.guard=none)(t:TypeId)(i:Nat)(x:Operand)(ho:o.op=.build t #[(i,x)])(v:Value)(hx:a.eval x=v)(cs:Array Value)(hrun:∀w,(Instr.build t #[(i,v)]).run P w=.ok (.agg cs) w)
  (h:wpList P ops Q rest (a.put o.dst (.agg cs)) w):wpList P ops Q (o::rest) a w:=by
 refine wpList_plain hgd fun K hK=> ?_
 unfold Oper.wp execOp;simp only[ho,List.map_toArray,List.map_cons,List.map_nil,hx,hrun,Sem.run_bind,Sem.run_pure,Result.andThen_ok];exact hK _ _ h
end
def LG (input:ByteArray):St:={stack:=[],cells:=fun _=>0,input:=input,out:=[],next:=0,kind:=0,fault:=0,place:=0,steps:=0,ended:=false}
def jm (input:ByteArray):RS:={σ:=LG input,cnt:=fun _=>0,ah:=0}
def dM (s:ByteArray):Array Value:=#[.slice none 0 0,.int .u16 0,.int .u16 0,.int .u16 0,.int .u16 0,.int .u16 0,.int .u16 0,.int .u16 0,.int .u16 0,.int .u16 0,.int .u16 0,.int .u16 0,.int .u16 0,.int .u16 0,.int .u16 0,.int .u16 0,.int .u16 0,.string s,.slice none 0 0,.int .i64 0,.int .i64 0,.int .i64 0,.int .i64 0,.string ByteArray.empty,.int .i64 0,.bool false]
def kZ:Array Value:=Array.replicate 65 (.int .i64 0)
def sG:Array Value:=#[.int .i64 0,.int .i64 0,.int .i64 0,.string ByteArray.empty,.int .i64 0]
theorem GI (w:World):(Instr.alloc 74 true (.tuple #[])).run Tryz.prog w=.ok (.pointer (some ⟨w.heap.size,0,none⟩)) (w.alloc (.cells sG 74)):=by kernel_rfl
theorem GJ (w:World):(Instr.alloc 161 true (.tuple #[])).run Tryz.prog w=.ok (.pointer (some ⟨w.heap.size,0,none⟩)) (w.alloc (.cells (dM ByteArray.empty) 161)):=by kernel_rfl
theorem GK (w:World):(Instr.alloc 164 true (.tuple #[])).run Tryz.prog w=.ok (.pointer (some ⟨w.heap.size,0,none⟩)) (w.alloc (.cells kZ 164)):=by kernel_rfl
theorem GL (s:ByteArray)(w:World):(Instr.build 161 #[(2,.string s)]).run Tryz.prog w=.ok (.agg (dM s)) w:=by kernel_rfl
theorem ye (s:ByteArray):(dM s).all (·.oneCell')=true:=by kernel_rfl
theorem GM (w:World)(s:ByteArray):∃W1,Sem.run Tryz.prog (storeCells ⟨w.heap.size+1,0,none⟩ (dM s).toList) ((w.alloc (.cells sG 74)).alloc (.cells (dM ByteArray.empty) 161))=.ok () W1∧
  W1.heap[w.heap.size+1]?=some (.cells (dM s) 161 (0,0))∧W1.heap[w.heap.size]?=some (.cells sG 74 (0,0))∧Below w.heap.size w W1∧W1.heap.size=w.heap.size+2:=by
 have e:=heap_alloc2_new w (.cells sG 74) (.cells (dM ByteArray.empty) 161);have e':=heap_alloc2_old w (.cells sG 74) (.cells (dM ByteArray.empty) 161);have hr:=run_storeCells_at Tryz.prog (w.heap.size+1) 0 161 (dM s).toList 0 _ _ e (by simp[dM]) (by
  have:=ye s
  rw[Array.all_eq_true_iff_forall_mem]at this;intro v hv;exact this v (by simpa using hv))
 have e3:((dM ByteArray.empty).toList.take (0+0)++(dM s).toList++(dM ByteArray.empty).toList.drop (0+0+(dM s).toList.length)).toArray=dM s:=by
  simp[dM]
 rw[e3]at hr
 refine⟨_,hr,setRow_heap _ _ _ _ _ _ e,(setRow_other _ _ _ _ (by omega)).trans e',?_,by simp⟩
 have hb:=((Below.refl w.heap.size w).alloc (Nat.le_refl _) (.cells sG 74)).alloc (by simp) (.cells (dM ByteArray.empty) 161);exact hb.trans ⟨rfl,rfl,rfl,by simp,fun k hk=>setRow_other _ _ _ _ (by omega)⟩
theorem yf (s:ByteArray)(j:Nat)(hj:j<26):(dM s)[j]?=some (ig (.slice none 0 0) (.slice none 0 0) (LG s) j):=by
 match j,hj with
 |0,_|1,_|2,_|3,_|4,_|5,_|6,_|7,_|8,_|9,_|10,_|11,_|12,_|13,_|14,_|15,_|16,_|17,_|18,_|19,_|20,_|21,_|22,_|23,_|24,_|25,_=>rfl
 |k+26,hj=>omega
theorem yg {H:Nat}{W1:World}{s:ByteArray}(h1:W1.heap[H+1]?=some (.cells (dM s) 161 (0,0)))(hs:W1.heap.size=H+2):
  MS (H+3) (H+1) (W1.alloc (.cells kZ 164)) (.slice none 0 0) (.slice none 0 0) (LG s)∧TS (H+2) (W1.alloc (.cells kZ 164)) (fun _=>0) 0:=by
 have e:(W1.alloc (.cells kZ 164)).heap[H+1]?=some (.cells (dM s) 161 (0,0)):=(Below.heap_alloc _ _ _ (by omega)).trans h1;have e2:(W1.alloc (.cells kZ 164)).heap[H+2]?=some (.cells kZ 164 (0,0)):=by rw[←hs];exact heap_alloc_new _ _
 refine⟨⟨fun j hj=> ?_,fun j=>frozen_of_row _ _ _ _ _ e,World.ownsRow_nil _ _ _ _,World.ownsRow_nil _ _ _ _,.inl rfl,by omega,by simp;omega⟩,⟨fun j hj=> ?_,?_,fun j=>frozen_of_row _ _ _ _ _ e2⟩⟩
 ·rw[cell_of_row _ _ _ _ _ _ e];exact yf s j hj
 ·rw[cell_of_row _ _ _ _ _ _ e2];show(Array.replicate 65 (Value.int .i64 0))[j]?=_;rw[Array.getElem?_replicate,if_pos (by omega)]
 ·rw[cell_of_row _ _ _ _ _ _ e2];rfl
theorem Ag (w:World)(cb co L cap eb eo ecap:Nat)(c aY:Nat→Int)(Start:Nat→Prop)(input:ByteArray)(fuel:Int)(hG:Good c L Start)(hE:∀p,p<L→-1≤aY p∧aY p≤255)(hin:input.size≤24)(hf0:0≤fuel)(hf1:fuel≤500)(hT:bK w)
  (hc:∀i,i<L→w.cell? ⟨cb,co+i,none⟩=some (.int .u8 (c i)))(he:∀i,i<L→w.cell? ⟨eb,eo+i,none⟩=some (.int .i64 (aY i)))(hcap:L≤cap):
  Calls Tryz.prog 64 #[.slice (some ⟨cb,co,none⟩) L cap,.slice (some ⟨eb,eo,none⟩) L ecap,.string input,.int .i64 fuel] w fun e w'=>
   ∃(N:Nat) (τ:RS),τ=after c aY fuel (jm input) N∧τ.σ.ended=true∧(∀m,m<N→(after c aY fuel (jm input) m).σ.ended=false)∧Below w.heap.size w w'∧
   ∃g,w.heap.size≤g∧w'.heap[g]?=some (.cells (fU τ.cnt 64).toArray 5 (0,0))∧e=.returned (.tuple #[.agg #[.int .i64 τ.σ.kind,.int .i64 τ.σ.fault,.int .i64 τ.σ.place,.string (strOfNums τ.σ.out),.int .i64 τ.σ.steps],.slice (some ⟨g,0,none⟩) 64 64]):=by
 obtain⟨W1,hrun,hm1,hr1,hb1,hs1⟩:=GM w input
 obtain⟨M0,T0⟩:=yg hm1 hs1
 have B0:Below (w.heap.size+1) W1 (W1.alloc (.cells kZ 164)):=(Below.refl _ _).alloc (by omega) _;have HR1:Hid (W1.heap[w.heap.size]?=some (.cells sG 74 (0,0))):=hr1;clear hm1 hr1;go_in;go_wp2_with(first|refine eR rfl 74 rfl sG GI ?_|refine eR rfl 161 rfl (dM ByteArray.empty) GJ ?_|refine eR rfl 164 rfl kZ GK ?_|refine iW rfl 161 2 _ rfl (.string input) rfl (dM input) (GL input) ?_)
 clear hrun;simp only[Act.put,List.setIfInBounds_toArray,List.set_cons_succ,List.set_cons_zero,hs1];go_loopg [12] (mu fuel (jm input)) (fun g _ wr=>∃(N:Nat) (τ:RS) (vs vo:Value),τ=after c aY fuel (jm input) N∧g=mu fuel τ∧Inv L Start fuel τ∧(∀m,m<N→(after c aY fuel (jm input) m).σ.ended=false)∧
   MS (w.heap.size+3) (w.heap.size+1) wr vs vo τ.σ∧TS (w.heap.size+2) wr τ.cnt τ.ah∧Below (w.heap.size+1) W1 wr)
 case atStart=>exact ⟨0,jm input,_,_,rfl,rfl,⟨Int.le_refl 0,by show(0:Int)≤300;omega,fun _=>hG.zero,by show 0≤32;omega,hin,by show 0≤16;omega,Int.le_refl 0,hf0,fun _=>Int.le_refl 0,Int.le_refl 0,by show(0:Int)≤256;omega⟩,fun m hm=>absurd hm (by omega),M0,T0,B0⟩
 case round=>
  obtain⟨N,τ,vs,vo,hτ,hgk,hI,hN,hM,hS,hB⟩:=hrel
  have hBw:Below w.heap.size w wr:=hb1.trans (hB.mono (by omega));have c25:=hM.cell 25 (by omega);rw[Dm]at c25;have hsz:=hM.le
  cases hend:τ.σ.ended with
  |false=>
   rw[hend]at c25;have hst:=hI.start hend
   obtain⟨p,hp⟩:=Int.eq_ofNat_of_zero_le hI.vA
   have hpn:τ.σ.next.toNat=p:=(by omega);rw[hpn]at hst;have hL:=hG.lt p hst;have hmost:=hG.most;have hk20:(c p).toNat≤20:=(by omega);have hs1':=(bS _ hk20).1;have hs2':=(bS _ hk20).2.2;have hpL:p<L:=(by omega);have hby:=hG.byte p hpL;have hen:=hE p hpL
   obtain⟨n0,n1⟩:=fM hG hst
   have c19:=hM.cell 19 (by omega);rw[k9,hp]at c19;have c22:=hM.cell 22 (by omega);have f22:=hM.thaw 22;have hcb:cb<w.heap.size:=block_lt_of_cell (hc p hpL);have heb:eb<w.heap.size:=block_lt_of_cell (he p hpL);have M1:=hM.qq (p:Int);have hO1:di (w.heap.size+1) wr (wr.setCell ⟨w.heap.size+1,22,none⟩ (.int .i64 (p:Int))):=di.set _ _ _ _;have hw1:Below w.heap.size w (wr.setCell ⟨w.heap.size+1,22,none⟩ (.int .i64 (p:Int))):=hBw.setCell (p:=⟨w.heap.size+1,22,none⟩) (by show w.heap.size≤w.heap.size+1;omega) _;have S1:TS (w.heap.size+2) (wr.setCell ⟨w.heap.size+1,22,none⟩ (.int .i64 (p:Int))) τ.cnt τ.ah:=hS.kept (hO1.block _ (by omega));have ce:wr.cell? ⟨eb,eo+p,none⟩=some (.int .i64 (aY p)):=(hBw.cell (p:=⟨eb,eo+p,none⟩) heb).trans (he p hpL);have hne:w.heap.size+1≠eb:=(by omega);have hpL':(p:Int)<(L:Int):=(by omega);have hpL2:(p:Int)≤(L:Int):=(by omega);have hcq:¬cap=p:=(by omega);have hfin:Hid (∀(w2 w3:World) (vs' vo':Value) (cnt':Nat→Int) (ah':Int),Below (w.heap.size+1) W1 w2→TS (w.heap.size+2) w2 cnt' ah'→cnt'=(if aY p= -1 then τ.cnt else fW τ.cnt τ.ah (aY p))→ah'=(if aY p= -1 then τ.ah else aY p+1)→MS (w.heap.size+3) (w.heap.size+1) w3 vs' vo' (mq {τ.σ with place:=(p:Int)} (c p).toNat (second c p) fuel)→Kept (w.heap.size+3) (w.heap.size+1) w2 w3→
     mu fuel (cW c aY fuel τ)<gk∧∃(N:Nat) (τ':RS) (vs vo:Value),τ'=after c aY fuel (jm input) N∧mu fuel (cW c aY fuel τ)=mu fuel τ'∧Inv L Start fuel τ'∧(∀m,m<N→(after c aY fuel (jm input) m).σ.ended=false)∧
      MS (w.heap.size+3) (w.heap.size+1) w3 vs vo τ'.σ∧TS (w.heap.size+2) w3 τ'.cnt τ'.ah∧Below (w.heap.size+1) W1 w3):=by
    intro w2 w3 vs' vo' cnt' ah' hB2 hS2 hcnt hah hM3 hK3;have A:=qs (aY:=aY) hG hE hI hend;have er:cW c aY fuel τ=⟨mq {τ.σ with place:=(p:Int)} (c p).toNat (second c p) fuel,cnt',ah'⟩:=by
     unfold cW;rw[hcnt,hah,hpn,hp]
    refine⟨by rw[hgk];exact A.2,N+1,cW c aY fuel τ,vs',vo',by rw[hτ];rfl,rfl,A.1,?_,?_,?_,?_⟩
    ·intro m hm;by_cases e:m=N
     ·subst e;rw[←hτ];exact hend
     ·exact hN m (by omega)
    ·rw[er];exact hM3
    ·rw[er];exact hS2.kept (hK3.block _ (by omega) (by omega))
    ·exact hB2.trans ⟨hK3.os,hK3.tape,hK3.output,hK3.size,fun k hk=>hK3.block k (by omega) (by omega)⟩
   have hcall:Hid (∀(w2:World),MS (w.heap.size+3) (w.heap.size+1) w2 vs vo {τ.σ with place:=(p:Int)}→Below w.heap.size w w2→
     Calls Tryz.prog 103 #[.pointer (some ⟨w.heap.size+1,0,none⟩),.slice (some ⟨cb,co+p,none⟩) (L-p) (cap-p),.int .i64 fuel] w2 (Out (w.heap.size+3) (w.heap.size+1) w2 (mq {τ.σ with place:=(p:Int)} (c p).toNat (second c p) fuel))):=by
    intro w2 hM2 hB2;have hT2:bK w2:=fun k hk=>(hB2.cell (p:=⟨0,k,none⟩) hT.pos).trans (hT k hk)
    have h0:=(hB2.cell (p:=⟨cb,co+p,none⟩) hcb).trans (hc p hpL);rw[show c p=((c p).toNat:Int) by omega]at h0;refine GG _ _ w2 vs vo _ cb (co+p) (L-p) (cap-p) (c p).toNat (second c p) fuel hk20 h0 (by omega) hI.tQ (by have:=hI.steps;show τ.σ.steps≤1000;omega) hI.vA (by have:=hI.DN;show τ.σ.next≤1000;omega) hI.stack hT2 hM2 (by omega) n0 n1 ?_ hI.input hI.out (by omega) (by have:=hB2.size;omega) ?_ ?_
    ·intro h16;have hc16:c p=16∨c p=17:=(by omega);have e2:aX ((c p).toNat*3)=2:=by rcases h16 with h|h<;>rw [h]<;>rfl
     unfold second;rw[if_pos e2];exact hG.cell p hst hc16
    ·intro e1;unfold second;rw[if_neg (by omega)]
    ·intro e2;have hp1:p+1<L:=by omega
     refine⟨by omega,?_⟩
     unfold second;rw[if_pos e2]
     exact(hB2.cell (p:=⟨cb,co+p+1,none⟩) hcb).trans (hc (p+1) hp1)
   have HB1:Hid (Below (w.heap.size+1) W1 (wr.setCell ⟨w.heap.size+1,22,none⟩ (.int .i64 (p:Int)))):=hB.setCell (p:=⟨w.heap.size+1,22,none⟩) (Nat.le_refl _) _;have HI1:Hid (0≤τ.ah∧τ.ah≤256∧∀i,0≤τ.cnt i):=⟨hI.LF,hI.ah,hI.cnt⟩;clear hτ hgk hN hM hS hB hI hBw hG hE hc he hT M0 T0 B0;by_cases hm1:aY p= -1
   ·have hm1':(aY p != -1)=false:=(by simp[hm1]);go_wp2_with fail
    refine(hcall.out _ M1 hw1).mono ?_
    rintro e w3 ⟨rfl,⟨vs',vo',M3⟩,K3⟩;have F:=hfin.out _ w3 vs' vo' _ _ HB1.out S1 (by rw[if_pos hm1]) (by rw[if_pos hm1]) M3 K3;go_wp2_with fail
    go_roundg (mu fuel (cW c aY fuel τ))
    case measure=>exact F.1
    case rel=>exact F.2
   ·have hm1':(aY p != -1)=true:=(by simp[hm1]);have hane: -1≤aY p∧aY p≤255:=hen;go_wp2_with fail
    refine(DJ (w.heap.size+2) _ τ.cnt τ.ah (aY p) S1 HI1.out.1 (by have:=HI1.out.2.1;omega) (by omega) (by omega) HI1.out.2.2).mono ?_
    rintro e w2 ⟨rfl,S2,O2⟩;have M2:=M1.other O2 (by omega) (by omega);have B2:=hw1.trans ⟨O2.os,O2.tape,O2.output,Nat.le_of_eq O2.size.symm,fun k hk=>O2.block k (by omega)⟩;have B2':=HB1.out.trans ⟨O2.os,O2.tape,O2.output,Nat.le_of_eq O2.size.symm,fun k hk=>O2.block k (by omega)⟩;go_wp2_with fail
    refine(hcall.out w2 M2 B2).mono ?_
    rintro e w3 ⟨rfl,⟨vs',vo',M3⟩,K3⟩;have F:=hfin.out w2 w3 vs' vo' _ _ B2' S2 (by rw[if_neg hm1]) (by rw[if_neg hm1]) M3 K3;go_wp2_with fail
    go_roundg (mu fuel (cW c aY fuel τ))
    case measure=>exact F.1
    case rel=>exact F.2
  |true=>
   rw[hend]at c25;have c18:=hM.cell 18 (by omega);rw[Dl]at c18;have c23:=hM.cell 23 (by omega);have f23:=hM.thaw 23;have hcv:=qG hM.bR
   obtain⟨so,hso⟩:∃so,strOfNums τ.σ.out=so:=⟨_,rfl⟩
   rw[hso]at hcv;have c20:=hM.cell 20 (by omega);rw[G6]at c20;have c21:wr.cell? ⟨w.heap.size+1,21,none⟩=some (.int .i64 τ.σ.fault):=hM.cell 21 (by omega);have c22:wr.cell? ⟨w.heap.size+1,22,none⟩=some (.int .i64 τ.σ.place):=hM.cell 22 (by omega);have c24:=hM.cell 24 (by omega);rw[kX]at c24;have hH:wr.heap[w.heap.size]?=some (.cells sG 74 (0,0)):=(hB.block _ (by omega)).trans HR1.out;have S3:TS (w.heap.size+2) (wr.setCell ⟨w.heap.size+1,23,none⟩ (.string so)) τ.cnt τ.ah:=hS.kept (heap_setCell_other wr ⟨w.heap.size+1,23,none⟩ _ _ (by show w.heap.size+2≠w.heap.size+1;omega));have hcov:Hid (∀W',TS (w.heap.size+2) W' τ.cnt τ.ah→W'.heap.size=wr.heap.size→Calls Tryz.prog 104 #[.pointer (some ⟨w.heap.size+2,0,none⟩)] W' fun e w'=>e=.returned (.slice (some ⟨wr.heap.size,0,none⟩) 64 64)∧w'.heap[wr.heap.size]?=some (.cells (fU τ.cnt 64).toArray 5 (0,0))∧Below wr.heap.size W' w'):=by
    intro W' hS' hsz';rw[←hsz'];exact Bn _ W' τ.cnt τ.ah hS' hI.cnt
   have g3:∀j,j<5→∃v,(wr.setCell ⟨w.heap.size+1,23,none⟩ (.string so)).cell? ⟨w.heap.size,j,none⟩=some v:=by
    intro j hj;rw[World.cell?_setCell_other _ _ _ _ (fun c=>by injection c with c1 _ _;omega),cell_of_row _ _ _ _ _ _ hH];match j,hj with
    |0,_|1,_|2,_|3,_|4,_=>exact ⟨_,rfl⟩
   have fH:∀j,(wr.setCell ⟨w.heap.size+1,23,none⟩ (.string so)).frozen? ⟨w.heap.size,j,none⟩=false:=fun j=>by rw[World.frozen?_setCell];exact frozen_of_row _ _ _ _ _ hH
   obtain⟨v0,g0⟩:=g3 0 (by omega)
   obtain⟨v1,g1⟩:=g3 1 (by omega)
   obtain⟨v2,g2⟩:=g3 2 (by omega)
   obtain⟨v3,g3'⟩:=g3 3 (by omega)
   obtain⟨v4,g4⟩:=g3 4 (by omega)
   have e23:(wr.setCell ⟨w.heap.size+1,23,none⟩ (.string so)).cell? ⟨w.heap.size+1,23,none⟩=some (.string so):=World.cell?_setCell_same _ _ _ c23;have eo:∀j,j≠23→(wr.setCell ⟨w.heap.size+1,23,none⟩ (.string so)).cell? ⟨w.heap.size+1,j,none⟩=wr.cell? ⟨w.heap.size+1,j,none⟩:=fun j hj=>World.cell?_setCell_other _ _ _ _ (fun c=>by injection c with _ c2 _;omega)
   have e20:=(eo 20 (by omega)).trans c20;have e21:=(eo 21 (by omega)).trans c21;have e22:=(eo 22 (by omega)).trans c22;have e24:=(eo 24 (by omega)).trans c24;have BW:Below w.heap.size w (wr.setCell ⟨w.heap.size+1,23,none⟩ (.string so)):=hBw.setCell (p:=⟨w.heap.size+1,23,none⟩) (by show w.heap.size≤w.heap.size+1;omega) _;have hz3:(wr.setCell ⟨w.heap.size+1,23,none⟩ (.string so)).heap.size=wr.heap.size:=by simp
   have HFIN:Hid (τ=after c aY fuel (jm input) N∧τ.σ.ended=true∧(∀m,m<N→(after c aY fuel (jm input) m).σ.ended=false)∧strOfNums τ.σ.out=so):=⟨hτ,hend,hN,hso⟩;have HC:Hid (∀W':World,W'.heap=(wr.setCell ⟨w.heap.size+1,23,none⟩ (.string so)).heap→W'.os=w.os→W'.tape=w.tape→W'.output=w.output→Calls Tryz.prog 104 #[.pointer (some ⟨w.heap.size+2,0,none⟩)] W' fun e w4=>e=.returned (.slice (some ⟨wr.heap.size,0,none⟩) 64 64)∧
     Hid (w4.heap[wr.heap.size]?=some (.cells (fU τ.cnt 64).toArray 5 (0,0))∧Below w.heap.size w w4)∧w4.cell? ⟨w.heap.size+1,20,none⟩=some (.int .i64 τ.σ.kind)∧w4.cell? ⟨w.heap.size+1,21,none⟩=some (.int .i64 τ.σ.fault)∧w4.cell? ⟨w.heap.size+1,22,none⟩=some (.int .i64 τ.σ.place)∧w4.cell? ⟨w.heap.size+1,23,none⟩=some (.string so)∧w4.cell? ⟨w.heap.size+1,24,none⟩=some (.int .i64 τ.σ.steps)∧w4.cell? ⟨w.heap.size,0,none⟩=some v0∧w4.cell? ⟨w.heap.size,1,none⟩=some v1∧w4.cell? ⟨w.heap.size,2,none⟩=some v2∧w4.cell? ⟨w.heap.size,3,none⟩=some v3∧w4.cell? ⟨w.heap.size,4,none⟩=some v4∧w4.frozen? ⟨w.heap.size,0,none⟩=false∧w4.frozen? ⟨w.heap.size,1,none⟩=false∧w4.frozen? ⟨w.heap.size,2,none⟩=false∧w4.frozen? ⟨w.heap.size,3,none⟩=false∧w4.frozen? ⟨w.heap.size,4,none⟩=false):=by
    intro W' hW' h1 h2 h3
    refine(hcov.out W' (S3.kept (by rw[hW'])) (by rw[hW'];exact hz3)).mono ?_
    rintro e w4 ⟨he,hg4,hB4⟩;have hW:∀a:Addr,W'.cell? a=(wr.setCell ⟨w.heap.size+1,23,none⟩ (.string so)).cell? a:=fun a=>World.cell?_of_block (by rw[hW'])
    have hF:∀a:Addr,W'.frozen? a=(wr.setCell ⟨w.heap.size+1,23,none⟩ (.string so)).frozen? a:=fun a=>World.frozen?_of_block (by rw[hW'])
    have cM:∀j,w4.cell? ⟨w.heap.size+1,j,none⟩=(wr.setCell ⟨w.heap.size+1,23,none⟩ (.string so)).cell? ⟨w.heap.size+1,j,none⟩:=fun j=>(hB4.cell (p:=⟨w.heap.size+1,j,none⟩) (by show w.heap.size+1<wr.heap.size;omega)).trans (hW _)
    have cH:∀j,w4.cell? ⟨w.heap.size,j,none⟩=(wr.setCell ⟨w.heap.size+1,23,none⟩ (.string so)).cell? ⟨w.heap.size,j,none⟩:=fun j=>(hB4.cell (p:=⟨w.heap.size,j,none⟩) (by show w.heap.size<wr.heap.size;omega)).trans (hW _)
    have kH:∀j,w4.frozen? ⟨w.heap.size,j,none⟩=false:=fun j=>(hB4.frozen (p:=⟨w.heap.size,j,none⟩) (by show w.heap.size<wr.heap.size;omega)).trans ((hF _).trans (fH j))
    have BB:Below w.heap.size w w4:=⟨hB4.os.trans h1,hB4.tape.trans h2,hB4.output.trans h3,by have:=hB4.size;rw[hW',hz3]at this;omega,fun k hk=>(hB4.block k (by omega)).trans (by rw[hW'];exact BW.block k hk)⟩
    exact⟨he,⟨hg4,BB⟩,(cM _).trans e20,(cM _).trans e21,(cM _).trans e22,(cM _).trans e23,(cM _).trans e24,(cH _).trans g0,(cH _).trans g1,(cH _).trans g2,(cH _).trans g3',(cH _).trans g4,kH _,kH _,kH _,kH _,kH _⟩
   have HO:Hid ((wr.setCell ⟨w.heap.size+1,23,none⟩ (.string so)).os=w.os∧(wr.setCell ⟨w.heap.size+1,23,none⟩ (.string so)).tape=w.tape∧(wr.setCell ⟨w.heap.size+1,23,none⟩ (.string so)).output=w.output):=⟨BW.os,BW.tape,BW.output⟩;clear hτ hgk hI hN hM hS hB hBw hG hE hc he hT M0 T0 B0 hend hso g3 fH eo hH S3 BW HR1 hcov;go_wp2_with fail
   go_region_with(go_at_call 104;refine(HC.out _ (by rfl) (by exact HO.out.1) (by exact HO.out.2.1) (by exact HO.out.2.2)).mono ?_;rintro e w4 ⟨rfl,HG4,d20,d21,d22,d23,d24,i0,i1,i2,i3,i4,j0,j1,j2,j3,j4⟩)
   all_goals
    go_wp2
    obtain⟨hg4,BB⟩:=HG4.out
    obtain⟨F1,F2,F3,F4⟩:=HFIN.out
    refine bodyPost_ret (v:=.tuple #[.agg #[.int .i64 τ.σ.kind,.int .i64 τ.σ.fault,.int .i64 τ.σ.place,.string so,.int .i64 τ.σ.steps],.slice (some ⟨wr.heap.size,0,none⟩) 64 64]) (by simp[results,Tryz.results64,go_sem,i0,i1,i2,i3,i4]) rfl ⟨N,τ,F1,F2,F3,?_,wr.heap.size,by omega,?_,by rw[F4]⟩
    ·repeat(first|exact BB|refine aH ?_ _ _|refine Below.drew ?_)
    ·refine(heap_setCell_other _ ⟨w.heap.size,4,none⟩ _ _ (by show wr.heap.size≠w.heap.size;omega)).trans ?_
     refine(heap_setCell_other _ ⟨w.heap.size,3,none⟩ _ _ (by show wr.heap.size≠w.heap.size;omega)).trans ?_
     refine(heap_setCell_other _ ⟨w.heap.size,2,none⟩ _ _ (by show wr.heap.size≠w.heap.size;omega)).trans ?_
     refine(heap_setCell_other _ ⟨w.heap.size,1,none⟩ _ _ (by show wr.heap.size≠w.heap.size;omega)).trans ?_
     refine(heap_setCell_other _ ⟨w.heap.size,0,none⟩ _ _ (by show wr.heap.size≠w.heap.size;omega)).trans ?_
     exact hg4
theorem VP.good {c:Nat→Int}{L N:Nat}(V:VP c L N):Good c L (fun p=>∃m,m<N∧pos c m=p) where
 zero:=⟨0,V.one,rfl⟩
 most:=by have:=V.most;omega
 lt:=by
  rintro p ⟨m,hm,rfl⟩
  exact⟨V.fits hm,by have:=V.op m hm;omega⟩
 byte:=V.byte
 cell:=by
  rintro p ⟨m,hm,rfl⟩ h;exact V.cell m hm (by unfold dB;rcases h with h|h<;>rw [h]<;>rfl)
 next:=by
  rintro p ⟨m,hm,rfl⟩ h0 h14 h19;by_cases e:m=N-1
  ·have:=V.stop
   rw[←e]at this;unfold fZ at this;simp[h0,h14,h19]at this
  ·exact⟨m+1,by omega,rfl⟩
 jump:=by
  rintro p ⟨m,hm,rfl⟩ h
  obtain⟨t,ht,e⟩:=V.jump m hm (by unfold aW;rcases h with h|h<;>rw [h]<;>rfl)
  exact⟨t,ht,by omega⟩
theorem mO (f:Nat→Bool)(L p:Nat)(hp:p<L)(hL:L≤80): -1≤cP f L p∧cP f L p≤255:=by
 unfold cP vG;rw[if_pos hp]
 have:=gy f p
 split<;>omega
theorem mP (w:World)(cb co L cap N:Nat)(c:Nat→Int)(V:VP c L N)(C:Laid w cb co L cap c)(hT:bK w):
  Calls Tryz.prog 62 #[.slice (some ⟨cb,co,none⟩) L cap] w fun e w'=>e=.returned (.tuple #[.int .i64 (cK (aT c N) L),.bool true])∧Below w.heap.size w w':=by
 have hmost:=V.most;go_in;go_wp2_with fail
 refine(GH w cb co L cap N c V C hT).mono ?_
 rintro e w1 ⟨rfl,B1⟩;go_wp2_with fail
 refine(iV w1 cb co L cap N c V (C.below B1) (hT.below B1)).mono ?_
 rintro e w2 ⟨rfl,hg,B2⟩;go_wp2_with fail
 refine(qD w2 w1.heap.size L _ hg (by omega)).mono ?_
 rintro e w3 ⟨rfl,rfl⟩;go_wp2_with fail
 go_ret2
 exact⟨rfl,B1.trans (B2.mono B1.size)⟩
end Go.Proofs.YtmpgjkhchfcjlaaGreatDoor
