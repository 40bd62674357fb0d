import Derived.Test.YtmpgjkhchfcjlaaGreatDoorM03
import Derived.Deep.MidRow
import Derived.Laws.OwnMore
namespace Go.Proofs.YtmpgjkhchfcjlaaGreatDoor
open Go.RowKit
set_option maxHeartbeats 400000
structure TS (S:Nat) (w:World) (cnt:Nat→Int) (ah:Int):Prop where
 cell:∀j,j<64→w.cell? ⟨S,j,none⟩=some (.int .i64 (cnt j))
 ahead:w.cell? ⟨S,64,none⟩=some (.int .i64 ah)
 thaw:∀j,w.frozen? ⟨S,j,none⟩=false
theorem TS.kept {S:Nat}{w w':World}{cnt:Nat→Int}{ah:Int}(h:TS S w cnt ah)(hb:w'.heap[S]?=w.heap[S]?):TS S w' cnt ah:=
 ⟨fun j hj=>(World.cell?_of_block (w:=w) (a:=⟨S,j,none⟩) hb).trans (h.cell j hj),(World.cell?_of_block (w:=w) (a:=⟨S,64,none⟩) hb).trans h.ahead,fun j=>(World.frozen?_of_block (w:=w) (a:=⟨S,j,none⟩) hb).trans (h.thaw j)⟩
theorem TS.count {S:Nat}{w:World}{cnt:Nat→Int}{ah:Int}(h:TS S w cnt ah)(p:Nat)(hp:p<64)(v:Int):TS S (w.setCell ⟨S,p,none⟩ (.int .i64 v)) (fun i=>if i=p then v else cnt i) ah where
 cell:=by
  intro j hj;by_cases e:j=p
  ·subst e;rw[if_pos rfl];exact World.cell?_setCell_same _ _ _ (h.cell j hj)
  ·rw[if_neg e,World.cell?_setCell_other _ _ _ _ (fun c=>e (by injection c with _ c2 _;exact c2.symm))];exact h.cell j hj
 ahead:=by rw[World.cell?_setCell_other _ _ _ _ (fun c=>by injection c with _ c2 _;omega)];exact h.ahead
 thaw:=fun j=>by rw[World.frozen?_setCell];exact h.thaw j
theorem TS.move {S:Nat}{w:World}{cnt:Nat→Int}{ah:Int}(h:TS S w cnt ah)(v:Int):TS S (w.setCell ⟨S,64,none⟩ (.int .i64 v)) cnt v where
 cell:=fun j hj=>by rw[World.cell?_setCell_other _ _ _ _ (fun c=>by injection c with _ c2 _;omega)];exact h.cell j hj
 ahead:=World.cell?_setCell_same _ _ _ h.ahead
 thaw:=fun j=>by rw[World.frozen?_setCell];exact h.thaw j
structure di (S:Nat) (w w':World):Prop where
 os:w'.os=w.os
 tape:w'.tape=w.tape
 output:w'.output=w.output
 size:w'.heap.size=w.heap.size
 block:∀k,k≠S→w'.heap[k]?=w.heap[k]?
theorem di.set (S:Nat)(w:World)(j:Nat)(u:Value):di S w (w.setCell ⟨S,j,none⟩ u):=⟨rfl,rfl,rfl,by simp,fun k hk=>heap_setCell_other w ⟨S,j,none⟩ k u hk⟩
theorem di.trans {S:Nat}{a b c:World}(h:di S a b)(k:di S b c):di S a c:=⟨k.os.trans h.os,k.tape.trans h.tape,k.output.trans h.output,k.size.trans h.size,fun i hi=>(k.block i hi).trans (h.block i hi)⟩
theorem di.drew {S:Nat}{a b:World}(h:di S a b):di S a b.drew:=⟨h.os,h.tape,h.output,h.size,h.block⟩
def bD (ah b:Int):Nat:=((7*ah+b)%64).toNat
def fW (cnt:Nat→Int)(ah b:Int):Nat→Int:=if cnt (bD ah b)<255 then fun i=>if i=bD ah b then cnt (bD ah b)+1 else cnt i else cnt
theorem DJ (S:Nat)(w:World)(cnt:Nat→Int)(ah b:Int)(h:TS S w cnt ah)(ha:0≤ah)(ha':ah≤1000)(hb:0≤b)(hb':b≤1000)(hc:∀i,0≤cnt i):
  Calls Tryz.prog 102 #[.pointer (some ⟨S,0,none⟩),.int .i64 b] w fun e w'=>e=.returned (.tuple #[])∧TS S w' (fW cnt ah b) (b+1)∧di S w w':=by
 have c64:=h.ahead;have f64:=h.thaw 64;have hp:bD ah b<64:=by unfold bD;omega
 have HP:Hid ((7*ah+b)%64=(bD ah b:Int)):=by unfold bD;show _=_;omega
 have hcp:=h.cell (bD ah b) hp;have hfp:=h.thaw (bD ah b);have h0:=hc (bD ah b);have hlt:(bD ah b:Int)<64:=by omega
 unfold fW;by_cases hx:cnt (bD ah b)<255
 ·rw[if_pos hx];have R:=(h.count (bD ah b) hp (cnt (bD ah b)+1)).move (b+1);have K:=(di.set S w (bD ah b) (.int .i64 (cnt (bD ah b)+1))).trans (di.set S _ 64 (.int .i64 (b+1)));have hmod:=HP.out;clear h hc;generalize bD ah b=p at*;go_in;go_wp2;go_region
  go_wp2;go_end0
  exact⟨rfl,R.kept rfl,K.drew⟩
 ·rw[if_neg hx];have R:=h.move (b+1);have K:=di.set S w 64 (.int .i64 (b+1));have hmod:=HP.out;clear h hc;generalize bD ah b=p at*;go_in;go_wp2;go_end0
  exact⟨rfl,R,K⟩
theorem DM (l:List Int)(k:Nat)(hk:k<64)(hl:l.length=64)(w:World):(Instr.index 162 (.agg (l.map (Value.int .i64)).toArray) (.int .i64 (k:Int))).run Tryz.prog w=.ok (.int .i64 (l.getD k 0)) w:=by
 have h1:(k:Int)<64:=by omega
 simp[Instr.index,run_underlying Tryz.underlying162,asIntOf,part,go_sem];rw[if_pos hk,List.getElem?_eq_getElem (by omega)];rfl
def dU (c:Int):Int:=if 128≤c then 128 else if 32≤c then 64 else if 16≤c then 32 else if 8≤c then 16 else if 4≤c then 8 else if c=3 then 4 else c
theorem Bl (c:Int)(h0:0≤c)(w:World):Calls Tryz.prog 151 #[.int .i64 c] w fun e w'=>e=.returned (.int .u8 (dU c))∧w'=w:=by
 unfold dU;by_cases h1:128≤c
 ·rw[if_pos h1];go_in;go_wp2;go_ret;exact⟨rfl,rfl⟩
 rw[if_neg h1];by_cases h2:32≤c
 ·rw[if_pos h2];go_in;go_wp2;go_ret;exact⟨rfl,rfl⟩
 rw[if_neg h2];by_cases h3:16≤c
 ·rw[if_pos h3];go_in;go_wp2;go_ret;exact⟨rfl,rfl⟩
 rw[if_neg h3];by_cases h4:8≤c
 ·rw[if_pos h4];go_in;go_wp2;go_ret;exact⟨rfl,rfl⟩
 rw[if_neg h4];by_cases h5:4≤c
 ·rw[if_pos h5];go_in;go_wp2;go_ret;exact⟨rfl,rfl⟩
 rw[if_neg h5];by_cases h6:c=3
 ·rw[if_pos h6];have h6':(c==3)=true:=by rw[beq_iff_eq];exact h6
  clear h6;go_in;go_wp2;go_ret;exact⟨rfl,rfl⟩
 ·rw[if_neg h6];have h6':(c==3)=false:=by rw[beq_eq_false_iff_ne];exact h6
  have h7:c≤2:=by omega
  clear h6;go_in;go_wp2;go_ret;exact⟨rfl,rfl⟩
def fU (cnt:Nat→Int)(k:Nat):List Value:=(List.range 64).map fun i=>.int .u8 (if i<k then dU (cnt i)else 0)
theorem jM (cnt:Nat→Int)(k:Nat):(fU cnt k).length=64:=by simp[fU]
theorem jN (cnt:Nat→Int)(k j:Nat)(hj:j<64):(fU cnt k)[j]?=some (.int .u8 (if j<k then dU (cnt j)else 0)):=by simp[fU,List.getElem?_range hj]
theorem vz (cnt:Nat→Int)(k:Nat)(hk:k<64):(fU cnt k).set k (.int .u8 (dU (cnt k)))=fU cnt (k+1):=by
 apply List.ext_getElem?;intro j;by_cases hj:j<64
 ·rw[List.getElem?_set];by_cases e:k=j
  ·subst e;rw[if_pos rfl,if_pos (by rw[jM];exact hk),jN _ _ _ hk,if_pos (by omega)]
  ·rw[if_neg e,jN _ _ _ hj,jN _ _ _ hj];by_cases c:j<k
   ·rw[if_pos c,if_pos (by omega)]
   ·rw[if_neg c,if_neg (by omega)]
 ·rw[List.getElem?_eq_none (by simp[jM];omega),List.getElem?_eq_none (by rw[jM];omega)]
def zero64:Array Value:=(fU (fun _=>0) 0).toArray
theorem sF (cnt:Nat→Int):zero64=(fU cnt 0).toArray:=by
 unfold zero64 fU;simp
theorem y9 (w:World):(Instr.makeSlice 39 (.int .i64 64) (.int .i64 64)).run Tryz.prog w=.ok (.slice (some ⟨w.heap.size,0,none⟩) 64 64) (w.alloc (.cells zero64 5)):=by kernel_rfl
theorem JC:(Tryz.prog.info? 162).map (·.size)=some 64:=by kernel_rfl
theorem Bn (S:Nat)(w:World)(cnt:Nat→Int)(ah:Int)(h:TS S w cnt ah)(hc:∀i,0≤cnt i):
  Calls Tryz.prog 104 #[.pointer (some ⟨S,0,none⟩)] w fun e w'=>e=.returned (.slice (some ⟨w.heap.size,0,none⟩) 64 64)∧w'.heap[w.heap.size]?=some (.cells (fU cnt 64).toArray 5 (0,0))∧Below w.heap.size w w':=by
 have hmk:=y9
 obtain⟨l,hl⟩:∃l,l=(List.range 64).map cnt:=⟨_,rfl⟩
 have hlen:l.length=64:=by rw[hl];simp
 have hget:∀k,k<64→l.getD k 0=cnt k:=fun k hk=>by rw[hl];simp[List.getElem?_range hk]
 have hr:(w.alloc (.cells zero64 5)).rangeAt S 0 (l.map (Value.int .i64)):=by
  refine World.rangeAt_alloc ?_ _;intro j v hj;rw[List.getElem?_map,Option.map_eq_some_iff]at hj
  obtain⟨x,hx,rfl⟩:=hj
  have hj2:j<64:=by rw[←hlen];exact(List.getElem?_eq_some_iff.1 hx).1
  have:=hget j hj2
  simp[hx]at this;rw[Nat.zero_add,h.cell j hj2,this]
 have hi:(Tryz.prog.info? 162).map (·.size)=some (l.map (Value.int .i64)).length:=by rw[List.length_map,hlen];exact JC
 have hix:=fun k hk=>DM l k hk hlen
 have HL:=hid hget;have HLEN:=hid hlen;have HIX:=hid hix;have HI:=hid hi;have HR:=hid hr;clear hl hlen hget hi hix hr
 obtain⟨cs,hcs⟩:∃cs,cs=l.map (Value.int .i64):=⟨_,rfl⟩
 rw[←hcs]at HR HI HIX;have HCS:=hid hcs;clear hcs;go_in;go_wp2_with(refine wpList_load_mid rfl 162 _ rfl S 0 rfl cs _ HR.out Tryz.underlying162 rfl HI.out ?_)
 go_loopw [11] (fun i wr=>∃k:Nat,k≤64∧i=.int .i64 k∧wr.heap[w.heap.size]?=some (.cells (fU cnt k).toArray 5 (0,0))∧Below w.heap.size w wr) (fun i _=>64-(intOf i).toNat)
 case atStart=>exact ⟨0,by omega,rfl,by rw[←sF];exact heap_alloc_new w _,(Below.refl _ _).alloc (Nat.le_refl _) _⟩
 case round=>
  obtain⟨k,hk,rfl,hh,hB⟩:=hrel
  by_cases hlt:k<64
  ·have e1:=HIX.out k hlt;rw[HL.out k hlt]at e1;have c1:wr.cell? ⟨w.heap.size,k,none⟩=some (.int .u8 (if k<k then dU (cnt k)else 0)):=by
    rw[cell_of_row wr w.heap.size k _ _ _ hh,List.getElem?_toArray];exact jN cnt k k hlt
   have f1:=frozen_of_row wr w.heap.size k _ _ hh;have R:(wr.setCell ⟨w.heap.size,k,none⟩ (.int .u8 (dU (cnt k)))).heap[w.heap.size]?=some (.cells (fU cnt (k+1)).toArray 5 (0,0)):=by
    rw[heap_setCell_same wr w.heap.size k _ _ _ hh,←vz cnt k hlt]
    simp
   have B2:=hB.setCell (p:=⟨w.heap.size,k,none⟩) (Nat.le_refl _) (.int .u8 (dU (cnt k)));have HR2:=hid R;have hck:=hc k;have hlt':(k:Int)<64:=(by omega);clear R hh hmk;go_wp2_with(go_at_call 151;refine(Bl _ hck _).mono ?_;rintro e w' ⟨rfl,rfl⟩)
   go_roundw
   case rel=>exact ⟨k+1,by omega,by go_num,HR2.out,B2⟩
   case measure=>simp [intOf];omega
  ·have e64:k=64:=(by omega);subst e64;go_wp2;go_ret
   exact⟨rfl,hh,hB⟩
structure RS where
 σ:St
 cnt:Nat→Int
 ah:Int
def second (c:Nat→Int)(p:Nat):Int:=if aX ((c p).toNat*3)=2 then c (p+1)else 0
def cW (c aY:Nat→Int)(fuel:Int)(ρ:RS):RS:=
 {σ:=mq {ρ.σ with place:=ρ.σ.next} (c ρ.σ.next.toNat).toNat (second c ρ.σ.next.toNat) fuel
  cnt:=if aY ρ.σ.next.toNat= -1 then ρ.cnt else fW ρ.cnt ρ.ah (aY ρ.σ.next.toNat)
  ah:=if aY ρ.σ.next.toNat= -1 then ρ.ah else aY ρ.σ.next.toNat+1}
def after (c aY:Nat→Int)(fuel:Int)(ρ:RS):Nat→RS
 |0=>ρ
 |n+1=>cW c aY fuel (after c aY fuel ρ n)
structure Good (c:Nat→Int) (L:Nat) (Start:Nat→Prop):Prop where
 zero:Start 0
 most:L≤240
 lt:∀p,Start p→p+bp (c p).toNat≤L∧c p≤20
 byte:∀p,p<L→0≤c p∧c p≤255
 cell:∀p,Start p→c p=16∨c p=17→c (p+1)<16
 next:∀p,Start p→c p≠0→c p≠14→c p≠19→Start (p+bp (c p).toNat)
 jump:∀p,Start p→c p=14∨c p=15→Start (c (p+1)).toNat
structure Inv (L:Nat) (Start:Nat→Prop) (fuel:Int) (ρ:RS):Prop where
 vA:0≤ρ.σ.next
 DN:ρ.σ.next≤300
 start:ρ.σ.ended=false→Start ρ.σ.next.toNat
 stack:ρ.σ.stack.length≤32
 input:ρ.σ.input.size≤24
 out:ρ.σ.out.length≤16
 tQ:0≤ρ.σ.steps
 steps:ρ.σ.steps≤fuel
 cnt:∀i,0≤ρ.cnt i
 LF:0≤ρ.ah
 ah:ρ.ah≤256
def mu (fuel:Int)(ρ:RS):Nat:=if ρ.σ.ended then 0 else(fuel-ρ.σ.steps).toNat*400+(400-ρ.σ.next.toNat)+1
theorem bS:∀k,k≤20→1≤bp k∧bp k≤2∧(bp k:Int)=aX (k*3):=by
 intro k hk
 obtain⟨⟨a,b⟩,_,_⟩:=eP k hk
 unfold bp;omega
theorem Bo (σ:St)(k:Nat)(n:Int)(hk:k≤20)(h1:aI k≤σ.stack.length)(h2:σ.stack.length-aI k+eO k≤32)(ho:σ.out.length≤16):
  (fT σ k n).steps=σ.steps∧(fT σ k n).place=σ.place∧(fT σ k n).input.size≤σ.input.size∧(fT σ k n).out.length≤16∧(fT σ k n).stack.length≤32∧
  ((fT σ k n).next=σ.next∨(fT σ k n).next=n∧(k=14∨k=15))∧((fT σ k n).ended=false→k≠0∧k≠19∧((fT σ k n).next=n∧(k=14∨k=15)∨(fT σ k n).next=σ.next∧k≠14)):=by
 match k,hk with
 |0,_|1,_|3,_|4,_|5,_|6,_|7,_|8,_|9,_|10,_|12,_|13,_|14,_|16,_|17,_|19,_|20,_=>
  simp[aI,eO,aX,aj]at h1 h2;simp[fT,aI,aX,aj,fin,ho];try omega
 |2,_=>
  simp[aI,eO,aX,aj]at h1 h2;by_cases he:0<σ.input.size
  ·simp[fT,aI,aX,aj,he,ho];omega
  ·simp[fT,aI,aX,aj,he,ho];omega
 |11,_=>
  simp[aI,eO,aX,aj]at h1 h2;simp only[fT,aI,aX,aj]
  simp
  split
  ·simp[fin,ho];omega
  ·simp[ho];omega
 |15,_=>
  simp[aI,eO,aX,aj]at h1 h2;simp only[fT,aI,aX,aj]
  simp
  split
  ·simp[ho];omega
  ·simp[ho];omega
 |18,_=>
  simp[aI,eO,aX,aj]at h1 h2;simp only[fT,vn,aI,aX,aj]
  simp
  split
  ·simp[fin,ho];omega
  ·simp;omega
 |k+21,hk=>omega
theorem fM {c:Nat→Int}{L:Nat}{Start:Nat→Prop}(hG:Good c L Start){p:Nat}(hp:Start p):0≤second c p∧second c p≤255:=by
 obtain⟨h1,h2⟩:=hG.lt p hp
 unfold second;by_cases e:aX ((c p).toNat*3)=2
 ·rw[if_pos e];have hs:=(bS (c p).toNat (by omega)).2.2;exact hG.byte (p+1) (by omega)
 ·rw[if_neg e];omega
theorem Bp {ρ:RS}{e:Int}(hcnt:∀i,0≤ρ.cnt i)(h0:0≤ρ.ah)(h1:ρ.ah≤256)(he: -1≤e)(he':e≤255):
  (∀i,0≤(if e= -1 then ρ.cnt else fW ρ.cnt ρ.ah e) i)∧0≤(if e= -1 then ρ.ah else e+1)∧(if e= -1 then ρ.ah else e+1)≤256:=by
 by_cases c:e= -1
 ·rw[if_pos c,if_pos c];exact⟨hcnt,h0,h1⟩
 ·rw[if_neg c,if_neg c]
  refine⟨fun i=> ?_,by omega,by omega⟩
  unfold fW;split
  ·show 0≤(if i=_ then _ else _)
   have:=hcnt (bD ρ.ah e)
   have:=hcnt i
   split<;>omega
  ·exact hcnt i
theorem qs {c aY:Nat→Int}{L:Nat}{Start:Nat→Prop}{fuel:Int}{ρ:RS}(hG:Good c L Start)(hE:∀p,p<L→-1≤aY p∧aY p≤255)(hI:Inv L Start fuel ρ)(he:ρ.σ.ended=false):
  Inv L Start fuel (cW c aY fuel ρ)∧mu fuel (cW c aY fuel ρ)<mu fuel ρ:=by
 have hst:=hI.start he
 obtain⟨hpL,hk20⟩:=hG.lt _ hst
 have hk:(c ρ.σ.next.toNat).toNat≤20:=by omega
 obtain⟨s1,s2,s3⟩:=bS _ hk
 have hpl:ρ.σ.next.toNat<L:=by omega
 obtain⟨hb0,hb1⟩:=hG.byte _ hpl
 obtain⟨e0,e1⟩:=hE _ hpl
 have hT:=Bp hI.cnt hI.LF hI.ah e0 e1
 obtain⟨n0,n1⟩:=fM hG hst
 have hmost:=hG.most;have hn0:=hI.vA;have hm0:mu fuel ρ=(fuel-ρ.σ.steps).toNat*400+(400-ρ.σ.next.toNat)+1:=by unfold mu;rw[he];rfl
 have key:∀τ:St,mq {ρ.σ with place:=ρ.σ.next} (c ρ.σ.next.toNat).toNat (second c ρ.σ.next.toNat) fuel=τ→
   (0≤τ.next∧τ.next≤300∧(τ.ended=false→Start τ.next.toNat)∧τ.stack.length≤32∧τ.input.size≤24∧τ.out.length≤16∧0≤τ.steps∧τ.steps≤fuel)∧
   (τ.ended=false→(fuel-τ.steps).toNat*400+(400-τ.next.toNat)+1<mu fuel ρ):=by
  intro τ hτ;rw[hm0];unfold mq at hτ;have hs0:=hI.tQ;have hs1:=hI.steps;by_cases e20:(c ρ.σ.next.toNat).toNat=20
  ·rw[if_pos e20]at hτ;subst hτ;have hc20:c ρ.σ.next.toNat=20:=(by omega);have hnx:=hG.next _ hst (by omega) (by omega) (by omega);rw[e20]at hnx;have e2:bp 20=2:=rfl;rw[e20,e2]at hpL
   refine⟨⟨by show 0≤ρ.σ.next+2;omega,by show ρ.σ.next+2≤300;omega,fun _=> ?_,hI.stack,hI.input,hI.out,hs0,hs1⟩,fun _=> ?_⟩
   ·show Start (ρ.σ.next+2).toNat;rw[show(ρ.σ.next+2).toNat=ρ.σ.next.toNat+bp 20 by rw[e2];omega];exact hnx
   ·show(fuel-ρ.σ.steps).toNat*400+(400-(ρ.σ.next+2).toNat)+1<_
    omega
  rw[if_neg e20]at hτ;by_cases es:ρ.σ.steps=fuel
  ·rw[if_pos es]at hτ;subst hτ
   exact⟨⟨hn0,hI.DN,fun c=>(by cases c),hI.stack,hI.input,hI.out,hs0,hs1⟩,fun c=>(by cases c)⟩
  rw[if_neg es]at hτ;have hlt:ρ.σ.steps+1≤fuel:=by omega
  by_cases er:bT ρ.σ.stack.length (aX ((c ρ.σ.next.toNat).toNat*3+1)) (aX ((c ρ.σ.next.toNat).toNat*3+2))≠0
  ·rw[if_pos er]at hτ;subst hτ
   refine⟨⟨?_,?_,fun c=>(by cases c),hI.stack,hI.input,hI.out,?_,hlt⟩,fun c=>(by cases c)⟩
   ·show 0≤ρ.σ.next+_;omega
   ·show ρ.σ.next+_≤300;omega
   ·show 0≤ρ.σ.steps+1;omega
  rw[if_neg er]at hτ
  obtain⟨_,⟨t1,t2⟩,⟨l1,l2⟩⟩:=eP _ hk
  have hmz:=kY (Classical.byContradiction er);have hq1:aI (c ρ.σ.next.toNat).toNat≤ρ.σ.stack.length:=by unfold aI;omega
  have hq2:ρ.σ.stack.length-aI (c ρ.σ.next.toNat).toNat+eO (c ρ.σ.next.toNat).toNat≤32:=by unfold aI eO;omega
  have F:=Bo {ρ.σ with place:=ρ.σ.next,steps:=ρ.σ.steps+1,next:=ρ.σ.next+aX ((c ρ.σ.next.toNat).toNat*3)} (c ρ.σ.next.toNat).toNat (second c ρ.σ.next.toNat) hk hq1 hq2 hI.out;have hτ':fT {ρ.σ with place:=ρ.σ.next,steps:=ρ.σ.steps+1,next:=ρ.σ.next+aX ((c ρ.σ.next.toNat).toNat*3)} (c ρ.σ.next.toNat).toNat (second c ρ.σ.next.toNat)=τ:=hτ;rw[hτ']at F
  obtain⟨F1,_,F3,F4,F5,F6,F7⟩:=F
  simp only at F1 F3 F6 F7;have hin:=hI.input
  refine⟨⟨?_,?_,?_,F5,by omega,F4,by omega,by omega⟩,?_⟩
  ·rcases F6 with f|⟨f,_⟩<;>omega
  ·rcases F6 with f|⟨f,_⟩<;>omega
  ·intro hne
   obtain⟨g0,g19,g⟩:=F7 hne
   rcases g with⟨f,g⟩|⟨f,g⟩
   ·rw[f];have e2:aX ((c ρ.σ.next.toNat).toNat*3)=2:=by rcases g with g|g<;>rw [g]<;>rfl
    unfold second;rw[if_pos e2];exact hG.jump _ hst (by omega)
   ·rw[f,show(ρ.σ.next+aX ((c ρ.σ.next.toNat).toNat*3)).toNat=ρ.σ.next.toNat+bp (c ρ.σ.next.toNat).toNat by omega];exact hG.next _ hst (by omega) (by omega) (by omega)
  ·intro hne;rw[F1]
   have:(fuel-(ρ.σ.steps+1)).toNat+1=(fuel-ρ.σ.steps).toNat:=by omega
   omega
 obtain⟨⟨k1,k2,k3,k4,k5,k6,k7,k8⟩,km⟩:=key _ rfl
 refine⟨⟨k1,k2,k3,k4,k5,k6,k7,k8,hT.1,hT.2.1,hT.2.2⟩,?_⟩
 cases hx:(cW c aY fuel ρ).σ.ended with
 |true=>unfold mu;rw[hx,he];simp
 |false=>
  have:=km hx
  have e:mu fuel (cW c aY fuel ρ)=(fuel-(cW c aY fuel ρ).σ.steps).toNat*400+(400-(cW c aY fuel ρ).σ.next.toNat)+1:=by
   conv=>lhs;unfold mu
   rw[hx];rfl
  rw[e];exact this
def fZ (x:Int):Bool:=x==0||x==14||x==19
def aW (x:Int):Bool:=x==14||x==15
def dB (x:Int):Bool:=x==16||x==17
theorem jO (x:Int)(w:World):Calls Tryz.prog 147 #[.int .u8 x] w fun e w'=>e=.returned (.bool (fZ x))∧w'=w:=by
 unfold fZ
 cases h0:x==0
 ·cases h1:x==14
  ·cases h2:x==19
   ·go_in;go_wp2;go_ret;exact⟨rfl,rfl⟩
   ·go_in;go_wp2;go_ret;exact⟨rfl,rfl⟩
  ·go_in;go_wp2;go_ret;exact⟨rfl,rfl⟩
 ·go_in;go_wp2;go_ret;exact⟨rfl,rfl⟩
theorem bV (x:Int)(w:World):Calls Tryz.prog 113 #[.int .u8 x] w fun e w'=>e=.returned (.bool (aW x))∧w'=w:=by
 unfold aW
 cases h0:x==14
 ·cases h1:x==15
  ·go_in;go_wp2;go_ret;exact⟨rfl,rfl⟩
  ·go_in;go_wp2;go_ret;exact⟨rfl,rfl⟩
 ·go_in;go_wp2;go_ret;exact⟨rfl,rfl⟩
theorem oo (x:Int)(w:World):Calls Tryz.prog 208 #[.int .u8 x] w fun e w'=>e=.returned (.bool (dB x))∧w'=w:=by
 unfold dB
 cases h0:x==16
 ·cases h1:x==17
  ·go_in;go_wp2;go_ret;exact⟨rfl,rfl⟩
  ·go_in;go_wp2;go_ret;exact⟨rfl,rfl⟩
 ·go_in;go_wp2;go_ret;exact⟨rfl,rfl⟩
def pos (c:Nat→Int):Nat→Nat
 |0=>0
 |n+1=>pos c n+bp (c (pos c n)).toNat
structure VP (c:Nat→Int) (L N:Nat):Prop where
 most:L≤80
 one:0<N
 last:pos c N=L
 op:∀m,m<N→c (pos c m)≤19
 byte:∀i,i<L→0≤c i∧c i≤255
 cell:∀m,m<N→dB (c (pos c m))=true→c (pos c m+1)<16
 stop:fZ (c (pos c (N-1)))=true
 jump:∀m,m<N→aW (c (pos c m))=true→∃t,t<N∧(pos c t:Int)=c (pos c m+1)
theorem VP.succ {c:Nat→Int}{L N:Nat}(V:VP c L N){m:Nat}(hm:m<N):pos c m+1≤pos c (m+1):=by
 have:=V.op m hm
 have:=(bS (c (pos c m)).toNat (by omega)).1
 show _≤pos c m+bp _;omega
theorem VP.mono {c:Nat→Int}{L N:Nat}(V:VP c L N){m:Nat}:∀d,m+d≤N→pos c m+d≤pos c (m+d):=by
 intro d;induction d with
 |zero=>intro _;exact Nat.le_refl _
 |succ d ih=>intro h;have:=ih (by omega);have h2:=V.succ (m:=m+d) (by omega);rw[←Nat.add_assoc m d 1];omega
theorem VP.lt {c:Nat→Int}{L N:Nat}(V:VP c L N){m:Nat}(hm:m<N):pos c m<L:=by
 have:=V.mono (m:=m) (N-m) (by omega)
 rw[show m+(N-m)=N by omega,V.last]at this;omega
theorem VP.fits {c:Nat→Int}{L N:Nat}(V:VP c L N){m:Nat}(hm:m<N):pos c m+bp (c (pos c m)).toNat≤L:=by
 have:=V.mono (m:=m+1) (N-(m+1)) (by omega)
 rw[show m+1+(N-(m+1))=N by omega,V.last]at this;have e:pos c (m+1)=pos c m+bp (c (pos c m)).toNat:=rfl;omega
structure At (c:Nat→Int) (L p kk:Nat):Prop where
 lt:p<L
 most:L≤80
 op:c p=(kk:Int)
 k:kk≤19
 fits:p+bp kk≤L
 sz:((p+bp kk:Nat):Int)=(p:Int)+aX (kk*3)
 s1:1≤aX (kk*3)
 s2:aX (kk*3)≤2
 pos:1≤bp kk
theorem VP.at {c:Nat→Int}{L N:Nat}(V:VP c L N){m:Nat}(hm:m<N):∃kk,At c L (pos c m) kk∧pos c (m+1)=pos c m+bp kk:=by
 have h1:=V.lt hm;have h2:=V.op m hm;have h3:=V.byte _ h1;have h4:=V.fits hm
 obtain⟨a,b,d⟩:=bS (c (pos c m)).toNat (by omega)
 exact⟨(c (pos c m)).toNat,⟨h1,V.most,by omega,by omega,h4,by omega,by omega,by omega,a⟩,rfl⟩
theorem bK.below {w wr:World}(hT:bK w)(hB:Below w.heap.size w wr):bK wr:=fun k hk=>(hB.cell (p:=⟨0,k,none⟩) hT.pos).trans (hT k hk)
theorem dD (s t l:Int)(w:World):(Instr.field 176 (.agg #[.int .i64 s,.int .i64 t,.int .i64 l]) 0).run Tryz.prog w=.ok (.int .i64 s) w:=by kernel_rfl
structure Laid (w:World) (cb co L cap:Nat) (c:Nat→Int):Prop where
 cell:∀i,i<L→w.cell? ⟨cb,co+i,none⟩=some (.int .u8 (c i))
 room:L≤cap
 room':cap≤9223372036854775807
 ny:0<L
theorem Laid.blk {w:World}{cb co L cap:Nat}{c:Nat→Int}(h:Laid w cb co L cap c):cb<w.heap.size:=block_lt_of_cell (h.cell 0 h.ny)
theorem Laid.at {w wr:World}{cb co L cap:Nat}{c:Nat→Int}(h:Laid w cb co L cap c)(hB:Below w.heap.size w wr){p:Nat}(hp:p<L):wr.cell? ⟨cb,co+p,none⟩=some (.int .u8 (c p)):=
 (hB.cell (p:=⟨cb,co+p,none⟩) h.blk).trans (h.cell p hp)
theorem Laid.below {w wr:World}{cb co L cap:Nat}{c:Nat→Int}(h:Laid w cb co L cap c)(hB:Below w.heap.size w wr):Laid wr cb co L cap c:=⟨fun _ hi=>h.at hB hi,h.room,h.room',h.ny⟩
theorem vB (w:World)(cb co L cap N:Nat)(c:Nat→Int)(V:VP c L N)(C:Laid w cb co L cap c)(hT:bK w):
  Calls Tryz.prog 101 #[.slice (some ⟨cb,co,none⟩) L cap] w fun e w'=>e=.returned (.bool false)∧Below w.heap.size w w':=by
 have hfs:=dD;go_in;go_wp2;go_loopw [3] (fun i wr=>∃m:Nat,m≤N∧i=.int .i64 (pos c m)∧Below w.heap.size w wr) (fun i _=>L-(intOf i).toNat)
 case atStart=>exact ⟨0,by omega,rfl,Below.refl _ _⟩
 case round=>
  obtain⟨m,hm,rfl,hB⟩:=hrel
  by_cases hlt:m<N
  ·obtain⟨kk,A,hsucc⟩:=V.at hlt
   have hck:=C.at hB A.lt;rw[A.op]at hck;have h1:=A.lt;have h2:=A.fits;have h3:=A.sz;have h4:=A.s1;have h5:=A.s2;have h6:=A.pos;have h7:=A.most;have hk:=A.k;have h20:((kk:Int)==20)=false:=by rw[beq_eq_false_iff_ne];omega
   have hTr:=hid (hT.below hB);have HS:=hid hsucc;have HZ:=hid h3;have hi1:(pos c m:Int)<(L:Int):=(by omega);clear hsucc h3 A;go_wp2_with(go_at_call 112;refine(ak kk (by omega) _ hTr.out).mono ?_;rintro e w' ⟨rfl,cc,rfl⟩)
   go_roundw
   case rel=>exact ⟨m+1,by omega,by rw[HS.out,HZ.out],hB.alloc (by have:=hB.size;omega) _⟩
   case measure=>simp [intOf];omega
  ·have e:m=N:=(by omega);subst e;rw[V.last];go_wp2;go_ret
   exact⟨rfl,hB⟩
theorem oq (w:World)(cb o len cp kk:Nat)(n last:Int)(hk:kk≤20)(hl:(kk:Int)≤last)(hlen:aX (kk*3)≤(len:Int))(h1:1≤len)(c0:w.cell? ⟨cb,o,none⟩=some (.int .u8 (kk:Int)))
  (hh:dB (kk:Int)=true→2≤len∧w.cell? ⟨cb,o+1,none⟩=some (.int .u8 n)∧n<16)(hT:bK w):
  Calls Tryz.prog 180 #[.slice (some ⟨cb,o,none⟩) len cp,.int .u8 last] w fun e w'=>e=.returned (.bool true)∧∃c,w'=w.alloc (.cells c 176):=by
 have hfs:=dD;have hl1:¬last<(kk:Int):=by omega
 have hl2:decide (last<(kk:Int))=false:=by simpa using hl
 have hl3:¬(len:Int)<aX (kk*3):=by omega
 have hi0:(0:Int)<(len:Int):=by omega
 have hcb:=block_lt_of_cell c0;have HT:=hid hT;clear hT
 cases hb:dB (kk:Int)with
 |false=>
  clear hh;go_in;go_wp2_with(first|(go_at_call 112;refine(ak kk (by omega) _ HT.out).mono ?_;rintro e w' ⟨rfl,cc,rfl⟩)|(go_at_call 208;refine(oo _ _).mono ?_;rintro e w' ⟨rfl,rfl⟩))
  go_ret
  exact⟨rfl,_,rfl⟩
 |true=>
  obtain⟨g1,g2,g3⟩:=hh hb
  have hi1:(1:Int)<(len:Int):=by omega
  clear hh;go_in;go_wp2_with(first|(go_at_call 112;refine(ak kk (by omega) _ HT.out).mono ?_;rintro e w' ⟨rfl,cc,rfl⟩)|(go_at_call 208;refine(oo _ _).mono ?_;rintro e w' ⟨rfl,rfl⟩))
  go_ret
  exact⟨rfl,_,rfl⟩
theorem qu (w:World)(cb co L cap N:Nat)(c:Nat→Int)(V:VP c L N)(C:Laid w cb co L cap c)(hT:bK w):
  Calls Tryz.prog 144 #[.slice (some ⟨cb,co,none⟩) L cap,.int .u8 19] w fun e w'=>e=.returned (.int .i64 L)∧Below w.heap.size w w':=by
 have hfs:=dD;have hroom:=C.room;go_in;go_wp2;go_loopw [5] (fun i wr=>∃m:Nat,m≤N∧i=.int .i64 (pos c m)∧Below w.heap.size w wr) (fun i _=>L-(intOf i).toNat)
 case atStart=>exact ⟨0,by omega,rfl,Below.refl _ _⟩
 case round=>
  obtain⟨m,hm,rfl,hB⟩:=hrel
  by_cases hlt:m<N
  ·obtain⟨kk,A,hsucc⟩:=V.at hlt
   have hck:=C.at hB A.lt;rw[A.op]at hck;have h1:=A.lt;have h2:=A.fits;have h3:=A.sz;have h4:=A.s1;have h5:=A.s2;have h6:=A.pos;have h7:=A.most;have hk:=A.k;have hTr:=hid (hT.below hB);have HS:=hid hsucc;have HZ:=hid h3;have hi1:(pos c m:Int)<(L:Int):=(by omega);have hi2:(pos c m:Int)≤(L:Int):=(by omega);have hcq:¬cap=pos c m:=(by omega);have hdec:decide ((pos c m:Int)<(L:Int))=true:=(by simpa using hi1);have hsnd:Hid (Calls Tryz.prog 180 #[.slice (some ⟨cb,co+pos c m,none⟩) (L-pos c m) (cap-pos c m),.int .u8 19] wr fun e w'=>e=.returned (.bool true)∧∃c,w'=wr.alloc (.cells c 176)):=by
    refine oq wr cb _ _ _ kk (c (pos c m+1)) 19 (by omega) (by omega) (by omega) (by omega) hck ?_ hTr.out;intro hh;have hs2:bp kk=2:=by
     unfold dB at hh
     have:kk=16∨kk=17:=by simp at hh;omega
     rcases this with e|e<;>rw [e]<;>rfl
    refine⟨by omega,C.at hB (p:=pos c m+1) (by omega),?_⟩
    have:=V.cell m hlt
    rw[A.op]at this;exact this hh
   have hcbr:cb<wr.heap.size:=by have:=C.blk;have:=hB.size;omega
   have hck':∀o,(wr.alloc o).cell? ⟨cb,co+pos c m,none⟩=some (.int .u8 (kk:Int)):=fun o=>(World.cell?_alloc_past _ _ _ hcbr).trans hck
   clear hsucc h3 A;go_wp2_with(first|(go_at_call 180;refine(hsnd.out).mono ?_;rintro e w' ⟨rfl,cc,rfl⟩)|(go_at_call 112;refine(ak kk (by omega) _ (hTr.out.alloc _)).mono ?_;rintro e w' ⟨rfl,cc2,rfl⟩))
   go_roundw
   case rel=>exact ⟨m+1,by omega,by rw[HS.out,HZ.out],(hB.alloc (by have:=hB.size;omega) _).alloc (by have:=hB.size;simp;omega) _⟩
   case measure=>simp [intOf];omega
  ·have e:m=N:=(by omega);subst e;rw[V.last];have hdec:decide ((L:Int)<(L:Int))=false:=(by simp);go_wp2_with fail
   go_ret
   exact⟨rfl,hB⟩
def dL (c:Nat→Int)(m:Nat):Bool:=if m=0 then false else fZ (c (pos c (m-1)))
theorem tT (w:World)(cb co L cap N:Nat)(c:Nat→Int)(V:VP c L N)(C:Laid w cb co L cap c)(hT:bK w):
  Calls Tryz.prog 145 #[.slice (some ⟨cb,co,none⟩) L cap] w fun e w'=>e=.returned (.bool true)∧Below w.heap.size w w':=by
 have hfs:=dD;go_in;go_wp2;go_loopw [3,4] (fun b i wr=>∃m:Nat,m≤N∧i=.int .i64 (pos c m)∧b=.bool (dL c m)∧Below w.heap.size w wr) (fun _ i _=>L-(intOf i).toNat)
 case atStart=>exact ⟨0,by omega,rfl,rfl,Below.refl _ _⟩
 case round=>
  obtain⟨m,hm,rfl,rfl,hB⟩:=hrel
  by_cases hlt:m<N
  ·obtain⟨kk,A,hsucc⟩:=V.at hlt
   have hck:=C.at hB A.lt;rw[A.op]at hck;have h1:=A.lt;have h2:=A.fits;have h3:=A.sz;have h4:=A.s1;have h5:=A.s2;have h6:=A.pos;have h7:=A.most;have hk:=A.k;have hTr:=hid (hT.below hB);have HS:=hid hsucc;have HZ:=hid h3;have hi1:(pos c m:Int)<(L:Int):=(by omega);have HW:Hid (dL c (m+1)=fZ (kk:Int)):=by
    show dL c (m+1)=_;unfold dL;rw[if_neg (by omega),Nat.add_sub_cancel,A.op]
   clear hsucc h3 A;go_wp2_with(first|(go_at_call 147;refine(jO _ _).mono ?_;rintro e w' ⟨rfl,rfl⟩)|(go_at_call 112;refine(ak kk (by omega) _ hTr.out).mono ?_;rintro e w' ⟨rfl,cc2,rfl⟩))
   go_roundw
   case rel=>exact ⟨m+1,by omega,by rw[HS.out,HZ.out],by rw[HW.out],hB.alloc (by have:=hB.size;omega) _⟩
   case measure=>simp [intOf];omega
  ·have e:m=N:=(by omega);subst e;rw[V.last];have hw:dL c m=true:=by
    unfold dL;rw[if_neg (by have:=V.one;omega)];exact V.stop
   rw[hw];go_wp2;go_ret
   exact⟨rfl,hB⟩
end Go.Proofs.YtmpgjkhchfcjlaaGreatDoor
