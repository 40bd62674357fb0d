import Derived.Test.YtmpgjkhchfcjlaaGreatDoorM21
import Derived.Test.YtmpgjkhchfcjlaaGreatDoorM28
namespace Go.Proofs.YtmpgjkhchfcjlaaGreatDoor
open Go.RowKit
set_option maxRecDepth 100000
set_option maxHeartbeats 2000000
def s9 (L:Nat):Nat→Nat
 |0=>0
 |j+1=>s9 L j+aJ L j
theorem uH (L:Nat):s9 L 8=gz L:=by
 simp only[s9,aJ,gz];repeat' split
 all_goals omega
theorem uI (L:Nat)(hL:L≤24):∀j,j≤8→s9 L j≤1000:=by
 intro j hj;match j,hj with
 |0,_|1,_|2,_|3,_|4,_|5,_|6,_|7,_|8,_=>simp only[s9,aJ];first|omega|(split<;>omega)
 |j+9,h=>omega
theorem x8 (w:World)(L j:Nat)(hj:j<8):(w.alloc (bO L)).cell? ⟨w.heap.size,j*2,none⟩=some (.int .i64 (aJ L j:Nat))∧∃f,(w.alloc (bO L)).cell? ⟨w.heap.size,j*2+1,none⟩=some (.func (.func f) #[] #[]):=by
 unfold bO;rw[World.cell?_alloc_new,World.cell?_alloc_new];match j,hj with
 |0,_|1,_|2,_|3,_|4,_|5,_|6,_|7,_=>exact ⟨rfl,_,rfl⟩
 |j+8,h=>omega
theorem x9 (s:ByteArray)(hs:s.size≤24)(w:World):Calls Tryz.prog 173 #[.string s] w fun e w'=>e=.returned (.int .i64 (gz s.size:Nat))∧Below w.heap.size w w':=by
 have hsum:=uH s.size;have HS:=hid (uI s.size hs);have hk:=sZ s.size hs w;generalize hL:s.size=L at*;rw[←hsum];have HC:=hid (x8 w L);go_in;go_wp2_with fail
 refine hk.mono ?_;rintro e w1 ⟨rfl,hw1⟩;have HB1:Hid (Below w.heap.size w w1):=by rw[hw1];exact(Below.refl _ _).alloc (Nat.le_refl _) _
 have hsz:w1.heap.size=w.heap.size+1:=by rw[hw1];simp
 rw[←hw1]at HC;clear hw1 hk hsum;go_wp2_with fail
 go_loopw [3,5,10] (fun m _ i wr=>∃j:Nat,j≤8∧m=.int .i64 (s9 L j:Nat)∧i=.int .i64 j∧Below (w.heap.size+1) w1 wr) (fun _ _ i _=>8-(intOf i).toNat)
 case atStart=>exact ⟨0,by omega,rfl,rfl,Below.refl _ _⟩
 case round=>
  obtain⟨j,hj,rfl,rfl,BB⟩:=hrel
  by_cases hlt:j<8
  ·have hi1:(j:Int)<8:=by omega
   obtain⟨a0,f,b0⟩:=HC.out j hlt
   have a1:=(BB.cell (p:=⟨w.heap.size,j*2,none⟩) (Nat.lt_succ_self _)).trans a0;have b1:=(BB.cell (p:=⟨w.heap.size,j*2+1,none⟩) (Nat.lt_succ_self _)).trans b0;have HB:=hid BB;have s1:=HS.out j hj;have s2:=HS.out (j+1) hlt;have hss:s9 L (j+1)=s9 L j+aJ L j:=rfl;have hlw:w.heap.size<wr.heap.size:=by have:=BB.size;omega
   generalize hq2:s9 L (j+1)=q2 at*;have HQ2:=hid hq2;clear hq2;generalize s9 L j=q1 at*;generalize aJ L j=m1 at*;clear BB a0 b0;go_wp2_with fail
   go_roundw
   case rel=>exact ⟨j+1,by omega,by rw[HQ2.out,show((q1:Int)+(m1:Int))=((q2:Nat):Int) by omega],by go_num,HB.out.alloc (by have:=HB.out.size;omega) _⟩
   case measure=>simp [intOf];omega
  ·have hi1:¬(j:Int)<8:=(by omega);have hj8:j=8:=(by omega);have HB:=hid (HB1.out.trans (BB.mono (by omega)));have HJ:=hid hj8;clear hj8 BB;go_wp2_with fail
   go_ret
   exact⟨by rw[HJ.out];rfl,HB.out⟩
structure LK (w:World) (d:HD) (g:PG) (h:HS) (G:Nat→Nat):Prop where
 cell:∀j,j<40→w.cell? ⟨d.H,j,none⟩=some (hval d g h j)
 kh:KH w d.H d.vk G h.kept
 size:∀k∈h.kept,k.text.size≤24
 aY:h.entry<h.kept.length
 most:h.kept.length≤30
 KX:0<h.kept.length
theorem LK.below {w w':World}{d:HD}{g:PG}{h:HS}{G:Nat→Nat}(p:LK w d g h G)(b:Below w.heap.size w w'):LK w' d g h G:=
 ⟨fun j hj=>(b.cell (p:=⟨d.H,j,none⟩) p.kh.lt).trans (p.cell j hj),p.kh.below b,p.size,p.aY,p.most,p.KX⟩
theorem AI (h:HS)(n:Nat):h.text n=(h.kept.getD n fV).text:=by
 unfold HS.text;rw[List.getD_eq_getElem?_getD]
 cases h.kept[n]?<;>rfl
theorem LK.oO {w:World}{d:HD}{g:PG}{h:HS}{G:Nat→Nat}(p:LK w d g h G)(n:Nat)(hn:n<h.kept.length):(h.text n).size≤24:=by
 rw[AI,List.getD_eq_getElem?_getD,List.getElem?_eq_getElem hn,Option.getD_some];exact p.size _ (List.getElem_mem hn)
theorem LK.at {w:World}{d:HD}{g:PG}{h:HS}{G:Nat→Nat}(p:LK w d g h G)(n:Nat)(hn:n<h.kept.length):
  Calls Tryz.prog 128 #[.pointer (some ⟨d.H,7,none⟩),.int .i64 (n:Nat)] w fun e w'=>e=.returned (.agg #[.string (h.text n),.slice (some ⟨G n,0,none⟩) 64 64])∧Below w.heap.size w w':=by
 rw[AI];exact jX w d.H d.vk G h.kept p.kh.c7 p.kh.row n hn
theorem tu {w:World}{d:HD}{g:PG}{h:HS}{G:Nat→Nat}(p:LK w d g h G):Calls Tryz.prog 129 #[.pointer (some ⟨d.H,0,none⟩)] w fun e w'=>e=.returned (.int .i64 (h.small:Nat))∧Below w.heap.size w w':=by
 have he:=p.aY;have c5:w.cell? ⟨d.H,5,none⟩=some (.int .i64 h.entry):=p.cell 5 (by omega);have hm:=p.most;have cw:w.cell? ⟨d.H,10+h.entry,none⟩=some (.bool (h.worked h.entry)):=by
  rw[p.cell (10+h.entry) (by omega)];unfold hval;rw[if_neg (by omega),if_neg (by omega),if_neg (by omega),if_neg (by omega),if_neg (by omega),if_neg (by omega),if_neg (by omega),if_neg (by omega),if_neg (by omega),if_neg (by omega),show 10+h.entry-10=h.entry by omega]
 have hi:(h.entry:Int)<30:=by omega
 have hft:=ji;have H1:Hid (∀W,Below w.heap.size w W→Calls Tryz.prog 128 #[.pointer (some ⟨d.H,7,none⟩),.int .i64 (h.entry:Nat)] W fun e w'=>e=.returned (.agg #[.string (h.text h.entry),.slice (some ⟨G h.entry,0,none⟩) 64 64])∧Below w.heap.size w w'):=fun W b=>((p.below b).at h.entry he).mono fun _ _ ⟨x,y⟩=>⟨x,b.trans (y.mono b.size)⟩
 have H2:Hid (∀W,Below w.heap.size w W→Calls Tryz.prog 173 #[.string (h.text h.entry)] W fun e w'=>e=.returned (.int .i64 (gz (h.text h.entry).size:Nat))∧Below w.heap.size w w'):=fun W b=>(x9 _ (p.oO _ he) W).mono fun _ _ ⟨x,y⟩=>⟨x,b.trans (y.mono b.size)⟩
 have hH:=p.kh.lt;unfold HS.small;clear p he hm;generalize h.entry=en at*
 cases hw:h.worked en with
 |true=>
  rw[hw]at cw;rw[if_pos rfl];go_in;go_wp2_with fail
  go_quiet(fail)
  go_wp2_with fail
  go_ret
  exact⟨rfl,⟨rfl,rfl,rfl,Nat.le_refl _,fun _ _=>rfl⟩⟩
 |false=>
  rw[hw]at cw;rw[if_neg (by decide)];generalize h.text en=tx at*;generalize G en=ge at*;go_in;go_wp2_with fail
  go_quiet(fail)
  go_wp2_with fail
  go_region_with(first
   |(go_at_call 128;refine(H1.out _ (by exact⟨rfl,rfl,rfl,Nat.le_refl _,fun _ _=>rfl⟩)).mono ?_;rintro e w2 ⟨rfl,B2⟩;have HB2:Hid (Below w.heap.size w w2):=B2;clear B2)
   |(go_at_call 173;refine(H2.out w2 HB2.out).mono ?_;rintro e w3 ⟨rfl,B3⟩;have HB3:Hid (Below w.heap.size w w3):=B3;clear B3))
  all_goals
   go_wp2_with fail
   go_ret
   exact⟨rfl,HB3.out⟩
theorem iJ {R:ByteArray→Sh}(hR:sO R){h:HS}(p:cE R h):∀k∈h.kept,∀q,jl (k.aV q):=fun k hk q=>by
 obtain⟨i,hi⟩:=List.getElem?_of_mem hk
 obtain⟨h1,_,h3,_⟩:=p.kept i k hi
 rw[h3];exact hR.aV _ h1 q
theorem nQ {R:ByteArray→Sh}{h:HS}(p:cE R h):∀k∈h.kept,k.text.size≤24:=fun k hk=>by
 obtain⟨i,hi⟩:=List.getElem?_of_mem hk
 exact(p.kept i k hi).1
theorem HU.lk {w:World}{U:Nat→Prop}{d:HD}{g:PG}{h:HS}(p:HU w U d g h)(inv:cE g.R h)(he:h.entry<h.kept.length)(hk:0<h.kept.length):∃G,LK w d g h G:=by
 obtain⟨G,K⟩:=p.kh (iJ g.mC inv)
 exact⟨G,p.cell,K,nQ inv,he,inv.most,hk⟩
theorem xd {w:World}{d:HD}{g:PG}{h:HS}{G:Nat→Nat}(p:LK w d g h G):Calls Tryz.prog 87 #[.pointer (some ⟨d.H,0,none⟩)] w fun e w'=>e=.returned (.int .i64 ((h.small:Nat)+16:Int))∧Below w.heap.size w w':=by
 have hs:h.small≤1000:=by
  unfold HS.small;split
  ·omega
  ·rw[←uH];exact uI _ (p.oO _ p.aY) 8 (by omega)
 have H1:=hid (tu p);generalize h.small=sm at*;clear p;go_in;go_wp2_with fail
 refine H1.out.mono ?_;rintro e w1 ⟨rfl,B1⟩;go_wp2_with fail
 go_ret
 exact⟨rfl,B1⟩
theorem xe (n:Nat)(l:List Nat)(k:Nat)(hk:k<l.length)(h:∀j,j<k→¬n<l.getD j 0)(hn:n<l.getD k 0):bZ n l=l.getD k 0:=by
 have e:l.find? (fun m=>decide (n<m))=some (l.getD k 0):=by
  rw[List.find?_eq_some_iff_getElem]
  refine⟨by simpa using hn,k,hk,?_,fun j hj=> ?_⟩
  ·rw[List.getD_eq_getElem?_getD,List.getElem?_eq_getElem hk,Option.getD_some]
  ·have:=h j hj
   rw[List.getD_eq_getElem?_getD,List.getElem?_eq_getElem (by omega),Option.getD_some]at this;simpa using this
 unfold bZ;rw[e];rfl
theorem xg (n:Nat)(l:List Nat)(h:∀j,j<l.length→¬n<l.getD j 0):bZ n l=l.getD 0 0:=by
 have e:l.find? (fun m=>decide (n<m))=none:=by
  rw[List.find?_eq_none];intro x hx
  obtain⟨j,hj⟩:=List.getElem?_of_mem hx
  have hlt:=(List.getElem?_eq_some_iff.1 hj).1
  have:=h j hlt
  rw[List.getD_eq_getElem?_getD,hj,Option.getD_some]at this;simpa using this
 unfold bZ;rw[e]
 cases l<;>rfl
theorem zu (w:World)(base:Nat)(v:Value)(l:List Nat)(hrow:w.ownsRow base 3 1 v l.length (l.map fun n=>.int .i64 ((n:Nat):Int)))(h0:0<l.length)(n:Nat):
  Calls Tryz.prog 130 #[.int .i64 (n:Nat),v] w fun e w'=>e=.returned (.int .i64 (bZ n l:Nat))∧w'=w:=by
 rcases aO hrow with⟨hv,hn⟩|⟨b,cap,rfl,hb,hcap,hnc,hc⟩
 ·omega
 ·have HC:Hid (∀j,j<l.length→w.cell? ⟨b,j,none⟩=some (.int .i64 ((l.getD j 0:Nat):Int))):=fun j hj=>hc j _ (by rw[List.getElem?_map,List.getElem?_eq_getElem hj,List.getD_eq_getElem?_getD,List.getElem?_eq_getElem hj];rfl)
  have HS:Hid (∀k,k<l.length→(∀j,j<k→¬n<l.getD j 0)→n<l.getD k 0→bZ n l=l.getD k 0):=fun k=>xe n l k
  have HN:=hid (xg n l);unfold maxLen at hcap;clear hrow hc;generalize bZ n l=r at*;generalize hL:l.length=L at*;clear hL;go_in;go_wp2_with fail
  go_loopw [6,9] (fun _ i wr=>∃k:Nat,k≤L∧i=.int .i64 k∧wr=w∧Hid (∀j,j<k→¬n<l.getD j 0)) (fun _ i _=>L-(intOf i).toNat)
  case atStart=>exact ⟨0,by omega,rfl,rfl,fun j hj=>by omega⟩
  case round=>
   obtain⟨k,hk,rfl,rfl,hall⟩:=hrel
   by_cases hlt:k<L
   ·have hi1:(k:Int)<(L:Int):=(by omega);have ck:=HC.out k hlt;have hst:=HS.out k hlt hall.out
    obtain⟨x,hx⟩:∃x,l.getD k 0=x:=⟨_,rfl⟩
    rw[hx]at ck hst;have HX:=hid hx;clear hx;by_cases hnx:n<x
    ·have hnx':(n:Int)<(x:Int):=(by omega);have HR:=hid (hst hnx);clear hst;go_wp2_with fail
     go_ret
     exact⟨by rw[HR.out];rfl,rfl⟩
    ·have hnx':¬(n:Int)<(x:Int):=(by omega);clear hst;go_wp2_with fail
     go_roundw
     case rel=>exact ⟨k+1,by omega,by go_num,by trivial,fun j hj=>if e:j=k then by rw[e,HX.out];exact hnx else hall.out j (by omega)⟩
     case measure=>simp [intOf];omega
   ·have hi1:¬(k:Int)<(L:Int):=(by omega);have hkL:k=L:=(by omega);have HR:=hid (HN.out (fun j hj=>hall.out j (by omega)));have c0:=HC.out 0 h0
    obtain⟨x,hx⟩:∃x,l.getD 0 0=x:=⟨_,rfl⟩
    rw[hx]at c0 HR;have hL0:(0:Int)<(L:Int):=(by omega);clear hkL hx;go_wp2_with fail
    go_ret
    exact⟨by rw[HR.out];rfl,rfl⟩
theorem HU.sk {w w':World}{U:Nat→Prop}{d:HD}{g:PG}{h:HS}(p:HU w U d g h){x:Int}(k:SK w.heap.size d.H 2 w w')(s:Sd w' d.H 2 x):aA U d.H g {h with aa:=x} w w':=by
 have hH:=p.dR _ (Or.inl rfl);have hb:∀b,U b→b≠d.H→w'.heap[b]?=w.heap[b]?:=fun b hu hn=>k.block b (p.lt b hu) hn
 refine⟨⟨k.os,k.tape,k.output,k.size,fun b hl hn=>k.block b hl (fun c=>hn (c▸hH))⟩,d,rfl,?_⟩
 exact{
  cell:=fun j hj=>by
   by_cases e:j=2
   ·subst e;exact s.cell
   ·rw[k.cell j e,p.cell j hj];unfold hval;simp only[if_neg e]
  thaw:=fun j=>(k.iy j).trans (p.thaw j)
  rk:=ay p.rk (fun b e=>hb b (p.dR b (Or.inr (Or.inl e))) (p.nk b e).1)
  rf:=ay p.rf (fun b e=>hb b (p.dR b (Or.inr (Or.inr (Or.inl e)))) (p.nf b e).1)
  rc:=ay p.rc (fun b e=>hb b (p.dR b (Or.inr (Or.inr (Or.inr e)))) (p.nc b e))
  nk:=p.nk
  nf:=p.nf
  nc:=p.nc
  code:=p.code.of_block (hb _ p.kW (fun c=>p.dX (Or.inl c)))
  dX:=p.dX
  kept:=fun i q hq=>(p.kept i q hq).keep (fun b hu hw=>hb b hu (fun c=>hw (Or.inl c))) (fun _ h=>Or.inl h)
  dR:=fun b hb'=>Or.inl (p.dR b hb')
  kW:=Or.inl p.kW
  lt:=fun b hb'=>hb'.elim (fun c=>Nat.lt_of_lt_of_le (p.lt b c) k.size) (fun c=>c.2)
  low:=fun b hb'=>hb'.elim (p.low b) (fun c=>by have:=p.two;omega)}
structure HG (w:World) (U:Nat→Prop) (d:HD) (g:PG) (h:HS):Prop where
 hu:HU w U d g h
 ok:oM g
 inv:cE g.R h
 pos:Hpos h
 tab:bK w
 pI:kT w
theorem HG.below {w w':World}{U:Nat→Prop}{d:HD}{g:PG}{h:HS}(p:HG w U d g h)(b:Below w.heap.size w w'):HG w' (Gr U w w') d g h:=
 ⟨p.hu.gr b,p.ok,p.inv,p.pos,p.tab.below b,p.pI.below b p.pI.two⟩
theorem HU.sd {w:World}{U:Nat→Prop}{d:HD}{g:PG}{h:HS}(p:HU w U d g h)(pos:Hpos h):Sd w d.H 2 h.aa:=⟨p.cell 2 (by omega),p.thaw 2,pos.pF,pos.pG⟩
theorem zw {w:World}{U:Nat→Prop}{d:HD}{g:PG}{h:HS}(p:HG w U d g h)(hk:0<h.kept.length):
  Calls Tryz.prog 86 #[.pointer (some ⟨d.H,0,none⟩)] w fun e w'=>e=.returned (.string h.aK)∧aA U d.H g {h with aa:=h.aG} w w':=by
 obtain⟨G,K⟩:=p.hu.lk p.inv (p.pos.entry hk) hk
 have he:=p.pos.entry hk;have hft:=ji;have hH:=K.kh.lt;have hm:=p.inv.most;have hch:h.changes<h.small+16:=p.pos.changes;have hsm:h.small≤1000:=by
  unfold HS.small;split
  ·omega
  ·rw[←uH];exact uI _ (K.oO _ he) 8 (by omega)
 have c5:w.cell? ⟨d.H,5,none⟩=some (.int .i64 h.entry):=K.cell 5 (by omega);have c6:w.cell? ⟨d.H,6,none⟩=some (.int .i64 h.changes):=K.cell 6 (by omega);have HC6:Hid (∀W,Below w.heap.size w W→W.cell? ⟨d.H,6,none⟩=some (.int .i64 h.changes)):=fun W b=>(K.below b).cell 6 (by omega)
 have HA:Hid (∀W,Below w.heap.size w W→Calls Tryz.prog 128 #[.pointer (some ⟨d.H,7,none⟩),.int .i64 (h.entry:Nat)] W fun e w'=>e=.returned (.agg #[.string (h.text h.entry),.slice (some ⟨G h.entry,0,none⟩) 64 64])∧Below w.heap.size w w'):=fun W b=>((K.below b).at h.entry he).mono fun _ _ ⟨x,y⟩=>⟨x,b.trans (y.mono b.size)⟩
 have HSM:Hid (∀W,Below w.heap.size w W→Calls Tryz.prog 129 #[.pointer (some ⟨d.H,0,none⟩)] W fun e w'=>e=.returned (.int .i64 (h.small:Nat))∧Below w.heap.size w w'):=fun W b=>(tu (K.below b)).mono fun _ _ ⟨x,y⟩=>⟨x,b.trans (y.mono b.size)⟩
 by_cases hlt:h.changes<h.small
 ·have e1:h.aK=strOfNums ((cL (nums (h.text h.entry)) h.changes).getD []):=if_pos hlt;have e2:h.aG=h.aa:=if_pos hlt;have HM:Hid (∀W,Below w.heap.size w W→Calls Tryz.prog 69 #[.string (h.text h.entry),.int .i64 (h.changes:Nat)] W fun e w'=>(∃b,e=.returned (.tuple #[.string h.aK,.bool b]))∧Below w.heap.size w w'):=fun W b=>by
   refine(pH _ (K.oO _ he) h.changes (by omega) W (p.pI.below b p.pI.two)).mono ?_
   rintro e w' ⟨bb,rfl⟩
   refine⟨⟨(cL (nums (h.text h.entry)) h.changes).isSome,?_⟩,b.trans (bb.mono b.size)⟩
   rw[e1]
   cases cL (nums (h.text h.entry)) h.changes<;>rfl
  have hlt':(h.changes:Int)<(h.small:Int):=by omega
  have HU':Hid (HU w U d g h):=p.hu;have hx:({h with aa:=h.aG}:HS)=h:=by rw[e2]
  rw[hx];clear e1 e2 hx p K he hlt;generalize h.aK=ct at*;generalize h.small=sm at*;generalize h.entry=en at*;generalize h.text en=tx at*;generalize G en=ge at*;generalize h.changes=ch at*;go_in;go_wp2_with fail
  go_region_with(first|(go_at_call 128;refine(HA.out w.drew (Below.refl _ _).drew).mono ?_;rintro e w2 ⟨rfl,B2⟩;have HB2:Hid (Below w.heap.size w w2):=B2;clear B2))
  have c62:=HC6.out w2 HB2.out;go_wp2_with fail
  go_region_held3 (fun W=>W.cell? ⟨d.H,6,none⟩=some (.int .i64 ch)) (go_keep) (first|(go_at_call 129;go_fit (HSM.out w2.drew HB2.out.drew);rintro e w3 ⟨rfl,B3⟩;have HB3:Hid (Below w.heap.size w w3):=B3;have c63:=HC6.out w3 B3;clear B3))
  all_goals
   go_wp2_with fail
   refine(HM.out _ (by exact HB3.out)).mono ?_
   rintro e w4 ⟨⟨b4,rfl⟩,B4⟩;have HB4:Hid (Below w.heap.size w w4):=B4;clear B4;go_wp2_with fail
   go_ret
   exact⟨rfl,aA.of HU'.out HB4.out⟩
 ·have e1:h.aK=strOfNums h.lq.1:=if_neg hlt;have e2:h.aG=h.lq.2:=if_neg hlt;have hdr:=dP h.aa h.kept.length hk;have HLEN:Hid (∀W,Below w.heap.size w W→Calls Tryz.prog 85 #[.pointer (some ⟨d.H,7,none⟩)] W fun e w'=>e=.returned (.int .i64 (h.kept.length:Nat))∧w'=W):=fun W b=>iO W d.H d.vk G h.kept (K.below b).kh.c7 (K.below b).kh.row
  have HBE:Hid (∀W,Below w.heap.size w W→Calls Tryz.prog 117 #[.pointer (some ⟨d.H,2,none⟩),.int .i64 (h.kept.length:Nat)] W fun e w'=>e=.returned (.int .i64 (dr h.aa h.kept.length:Nat))∧w'=W.setCell ⟨d.H,2,none⟩ (.int .u64 (sd h.aa))):=fun W b=>sX W d.H 2 h.aa ((p.hu.gr b).sd p.pos) h.kept.length hk (by omega)
  have HAT:Hid (∀W,Below w.heap.size w W→Calls Tryz.prog 128 #[.pointer (some ⟨d.H,7,none⟩),.int .i64 (dr h.aa h.kept.length:Nat)] (W.setCell ⟨d.H,2,none⟩ (.int .u64 (sd h.aa))) fun e w'=>(∃ge,e=.returned (.agg #[.string (h.text (dr h.aa h.kept.length)),.slice (some ⟨ge,0,none⟩) 64 64]))∧Below W.heap.size (W.setCell ⟨d.H,2,none⟩ (.int .u64 (sd h.aa))) w'):=fun W b=>by
   have pW:=p.hu.gr b
   obtain⟨_,d',hd',q⟩:=pW.sk (SK.self W.heap.size d.H 2 W (.int .u64 (sd h.aa))) ((pW.sd p.pos).set (sd h.aa) (iA _).1 (iA _).2)
   obtain⟨G',K'⟩:=HU.lk (h:={h with aa:=sd h.aa}) q (p.inv.alike ⟨rfl,rfl,rfl⟩) (p.pos.entry hk) hk
   have:=K'.at (dr h.aa h.kept.length) hdr
   rw[hd']at this;refine this.mono fun e w' ⟨x,y⟩=>⟨⟨_,x⟩,?_⟩
   rw[World.size_setCell]at y;exact y
  have HWI:Hid (∀W W',Below w.heap.size w W→Below W.heap.size (W.setCell ⟨d.H,2,none⟩ (.int .u64 (sd h.aa))) W'→Calls Tryz.prog 72 #[.string (h.text h.entry),.string (h.text (dr h.aa h.kept.length)),.pointer (some ⟨d.H,2,none⟩)] W' fun e w'=>e=.returned (.string h.aK)∧aA U d.H g {h with aa:=h.aG} w w'):=fun W W' b b'=>by
   have pW:=p.hu.gr b;have hHW:d.H<W.heap.size:=pW.lt _ (pW.dR _ (Or.inl rfl));have k1:SK W.heap.size d.H 2 W W':=(SK.self W.heap.size d.H 2 W _).trans (SK.dZ b' (Nat.le_refl _) hHW);have s1:Sd W' d.H 2 (sd h.aa):=((pW.sd p.pos).set (sd h.aa) (iA _).1 (iA _).2).below b' hHW
   refine(td W' W.heap.size d.H 2 _ _ (K.oO _ he) (K.oO _ hdr) hHW (by have:=b'.size;rw[World.size_setCell]at this;exact this) _ s1).mono ?_
   rintro e w' ⟨rfl,s2,k2⟩
   refine⟨by rw[e1];rfl,?_⟩
   rw[e2]
   exact(aA.of p.hu b).then (pW.sk (k1.trans k2) s2)
  have hlt':¬(h.changes:Int)<(h.small:Int):=by omega
  generalize hsx:({h with aa:=h.aG}:HS)=hz at HWI⊢;clear e1 e2 p K he hlt hsx;generalize h.aK=ct at*;generalize h.small=sm at*;generalize h.text (dr h.aa h.kept.length)=to at*;generalize dr h.aa h.kept.length=dn at*;generalize h.kept.length=kl at*;generalize sd h.aa=sx at*;generalize h.entry=en at*;generalize h.text en=tx at*;generalize G en=ge at*;generalize h.changes=ch at*;go_in;go_wp2_with fail
  go_region_with(first|(go_at_call 128;refine(HA.out w.drew (Below.refl _ _).drew).mono ?_;rintro e w2 ⟨rfl,B2⟩;have HB2:Hid (Below w.heap.size w w2):=B2;clear B2))
  have c62:=HC6.out w2 HB2.out;go_wp2_with fail
  go_region_held3 (fun W=>W.cell? ⟨d.H,6,none⟩=some (.int .i64 ch)) (go_keep) (first|(go_at_call 129;go_fit (HSM.out w2.drew HB2.out.drew);rintro e w3 ⟨rfl,B3⟩;have HB3:Hid (Below w.heap.size w w3):=B3;have c63:=HC6.out w3 B3;clear B3))
  all_goals
   go_wp2_with fail
   go_region_with(first
    |(go_at_call 85;refine(HLEN.out w3.drew HB3.out.drew).mono ?_;rintro e w4 ⟨rfl,hw4⟩;obtain rfl:=hw4)
    |(go_at_call 117;refine(HBE.out w3.drew HB3.out.drew).mono ?_;rintro e w5 ⟨rfl,hw5⟩;obtain rfl:=hw5)
    |(go_at_call 128;refine(HAT.out w3.drew HB3.out.drew).mono ?_;rintro e w6 ⟨⟨g6,rfl⟩,B6⟩;have HB6:Hid (Below w3.drew.heap.size (w3.drew.setCell ⟨d.H,2,none⟩ (.int .u64 sx)) w6):=B6;clear B6))
   go_wp2_with fail
   refine(HWI.out w3.drew w6 HB3.out.drew HB6.out).mono ?_
   rintro e w7 ⟨rfl,hT7⟩;have HT7:Hid (aA U d.H g hz w w7):=hT7;clear hT7;go_wp2_with fail
   go_ret
   exact⟨rfl,HT7.out⟩
theorem EU (d:HD)(g:PG)(h:HS)(f:Nat→Bool)(j:Nat)(hj:j<10):hval d g {h with worked:=f} j=hval d g h j:=by
 match j,hj with
 |0,_|1,_|2,_|3,_|4,_|5,_|6,_|7,_|8,_|9,_=>rfl
 |j+10,h=>omega
theorem mb (d:HD)(g:PG)(h:HS)(j:Nat):hval d g h (10+j)=.bool (h.worked j):=by
 unfold hval;rw[if_neg (by omega),if_neg (by omega),if_neg (by omega),if_neg (by omega),if_neg (by omega),if_neg (by omega),if_neg (by omega),if_neg (by omega),if_neg (by omega),if_neg (by omega),show 10+j-10=j by omega]
theorem HU.work {w:World}{U:Nat→Prop}{d:HD}{g:PG}{h:HS}(p:HU w U d g h):HU (w.setCell ⟨d.H,10+h.entry,none⟩ (.bool true)) U d g {h with worked:=fun i=>if i=h.entry then true else h.worked i}:=
 p.set (10+h.entry) _ _ rfl rfl rfl (fun j hj=>by
  by_cases e:j=10+h.entry
  ·subst e;rw[if_pos rfl,mb];dsimp only;rw[if_pos rfl]
  ·rw[if_neg e];by_cases hl:j<10
   ·exact EU d g h _ j hl
   ·obtain⟨k,rfl⟩:∃k,j=10+k:=⟨j-10,by omega⟩
    rw[mb,mb];dsimp only;rw[if_neg (by omega)])
theorem EV {w W:World}{U:Nat→Prop}{d:HD}{g:PG}{h:HS}(p:HU w U d g h)(B:Below w.heap.size (w.setCell ⟨d.H,10+h.entry,none⟩ (.bool true)) W):
  aA U d.H g h.fK w ((W.setCell ⟨d.H,5,none⟩ (.int .i64 (bZ h.entry (bE h.kept):Nat))).setCell ⟨d.H,6,none⟩ (.int .i64 0)):=by
 have p1:=p.work;have B':Below (w.setCell ⟨d.H,10+h.entry,none⟩ (.bool true)).heap.size (w.setCell ⟨d.H,10+h.entry,none⟩ (.bool true)) W:=by rw[World.size_setCell];exact B
 have p2:=p1.gr B';have p3:=p2.set 5 (.int .i64 (bZ h.entry (bE h.kept):Nat)) {h with worked:=fun i=>if i=h.entry then true else h.worked i,entry:=bZ h.entry (bE h.kept)} rfl rfl rfl (fun j hj=>by
  by_cases e:j=5
  ·subst e;rfl
  ·rw[if_neg e];unfold hval;simp only[if_neg e])
 have p4:=p3.set 6 (.int .i64 0) h.fK rfl rfl rfl (fun j hj=>by
  by_cases e:j=6
  ·subst e;rfl
  ·rw[if_neg e];unfold hval HS.fK;simp only[if_neg e])
 refine⟨?_,d,rfl,?_⟩
 ·have f1:Fr U w (w.setCell ⟨d.H,10+h.entry,none⟩ (.bool true)):=Fr.set (p.dR _ (Or.inl rfl)) _ _;have f2:Fr U (w.setCell ⟨d.H,10+h.entry,none⟩ (.bool true)) W:=Fr.below B'
  exact((f1.same f2).same (Fr.set (p.dR _ (Or.inl rfl)) _ _)).same (Fr.set (p.dR _ (Or.inl rfl)) _ _)
 ·have e1:Gr U (w.setCell ⟨d.H,10+h.entry,none⟩ (.bool true)) W=Gr U w ((W.setCell ⟨d.H,5,none⟩ (.int .i64 (bZ h.entry (bE h.kept):Nat))).setCell ⟨d.H,6,none⟩ (.int .i64 0)):=by
   unfold Gr;rw[World.size_setCell,World.size_setCell,World.size_setCell]
  rw[←e1];exact p4
theorem zx {w:World}{U:Nat→Prop}{d:HD}{g:PG}{h:HS}(p:HU w U d g h)(inv:cE g.R h)(he:h.entry<h.kept.length)(hk:0<h.kept.length):
  Calls Tryz.prog 88 #[.pointer (some ⟨d.H,0,none⟩)] w fun e w'=>e=.returned (.tuple #[])∧aA U d.H g h.fK w w':=by
 have hm:=inv.most;have c5:w.cell? ⟨d.H,5,none⟩=some (.int .i64 h.entry):=p.cell 5 (by omega);have c6:w.cell? ⟨d.H,6,none⟩=some (.int .i64 h.changes):=p.cell 6 (by omega);have cw:w.cell? ⟨d.H,10+h.entry,none⟩=some (hval d g h (10+h.entry)):=p.cell (10+h.entry) (by omega);have f5:=p.thaw 5;have f6:=p.thaw 6;have fw:=p.thaw (10+h.entry);have hH:d.H<w.heap.size:=p.lt _ (p.dR _ (Or.inl rfl));have hi:(h.entry:Int)<30:=by omega
 obtain⟨vw,hvw⟩:∃vw,hval d g h (10+h.entry)=vw:=⟨_,rfl⟩
 rw[hvw]at cw;have hvb:∃b,vw=.bool b:=by
  rw[←hvw,mb]
  exact⟨_,rfl⟩
 obtain⟨bw,rfl⟩:=hvb
 have HFIN:Hid (∀W,Below w.heap.size (w.setCell ⟨d.H,10+h.entry,none⟩ (.bool true)) W→aA U d.H g h.fK w ((W.setCell ⟨d.H,5,none⟩ (.int .i64 (bZ h.entry (bE h.kept):Nat))).setCell ⟨d.H,6,none⟩ (.int .i64 0))):=fun W B=>EV p B
 have HFAV:Hid (∀W,Below w.heap.size (w.setCell ⟨d.H,10+h.entry,none⟩ (.bool true)) W→Calls Tryz.prog 95 #[.pointer (some ⟨d.H,0,none⟩)] W fun e w'=>(∃v',e=.returned v'∧w'.ownsRow W.heap.size 3 1 v' (bE h.kept).length ((bE h.kept).map fun n=>.int .i64 ((n:Nat):Int)))∧Below w.heap.size (w.setCell ⟨d.H,10+h.entry,none⟩ (.bool true)) w'):=fun W B=>by
  obtain⟨G,K⟩:=p.work.kh (h:={h with worked:=fun i=>if i=h.entry then true else h.worked i}) (iJ (h:=h) g.mC inv)
  have B':Below (w.setCell ⟨d.H,10+h.entry,none⟩ (.bool true)).heap.size (w.setCell ⟨d.H,10+h.entry,none⟩ (.bool true)) W:=by rw[World.size_setCell];exact B
  exact(AH W d.H d.vk G h.kept (K.below B') (nQ inv) (by omega)).mono fun e w' ⟨x,y⟩=>⟨x,B.trans (y.mono (by have:=B.size;rw[World.size_setCell]at this;exact this))⟩
 have HBH:Hid (∀W base v',W.ownsRow base 3 1 v' (bE h.kept).length ((bE h.kept).map fun n=>.int .i64 ((n:Nat):Int))→Calls Tryz.prog 130 #[.int .i64 (h.entry:Nat),v'] W fun e w'=>e=.returned (.int .i64 (bZ h.entry (bE h.kept):Nat))∧w'=W):=fun W base v' hr=>
  zu W base v' (bE h.kept) hr (by have:=nI inv g.mC hk;cases hf:bE h.kept with|nil=>exact absurd hf this|cons a l=>simp) h.entry
 have HC:Hid (∀W,Below w.heap.size (w.setCell ⟨d.H,10+h.entry,none⟩ (.bool true)) W→(W.cell? ⟨d.H,5,none⟩=some (.int .i64 h.entry)∧W.cell? ⟨d.H,6,none⟩=some (.int .i64 h.changes)∧W.frozen? ⟨d.H,5,none⟩=false∧W.frozen? ⟨d.H,6,none⟩=false∧d.H<W.heap.size)):=fun W B=>by
  have hb:=B.block d.H hH;have hsz:=B.size;rw[World.size_setCell]at hsz
  refine⟨(World.cell?_of_block (w:=w.setCell ⟨d.H,10+h.entry,none⟩ (.bool true)) (a:=⟨d.H,5,none⟩) hb).trans ?_,(World.cell?_of_block (w:=w.setCell ⟨d.H,10+h.entry,none⟩ (.bool true)) (a:=⟨d.H,6,none⟩) hb).trans ?_,(World.frozen?_of_block (w:=w.setCell ⟨d.H,10+h.entry,none⟩ (.bool true)) (a:=⟨d.H,5,none⟩) hb).trans ?_,(World.frozen?_of_block (w:=w.setCell ⟨d.H,10+h.entry,none⟩ (.bool true)) (a:=⟨d.H,6,none⟩) hb).trans ?_,by omega⟩
  ·rw[World.cell?_setCell_other _ _ _ _ (fun c=>by injection c with _ c2 _;omega)];exact c5
  ·rw[World.cell?_setCell_other _ _ _ _ (fun c=>by injection c with _ c2 _;omega)];exact c6
  ·rw[World.frozen?_setCell];exact f5
  ·rw[World.frozen?_setCell];exact f6
 have c51:(w.setCell ⟨d.H,10+h.entry,none⟩ (.bool true)).cell? ⟨d.H,5,none⟩=some (.int .i64 h.entry):=(HC.out _ (Below.refl _ _)).1;generalize h.fK=hx at*;generalize bZ h.entry (bE h.kept)=bh at*;generalize h.changes=ch at*;generalize h.entry=en at*;clear p inv he hm hvw;go_in;go_wp2_with fail
 go_region
 all_goals
  go_wp2_with fail
  go_region_with(first
   |(go_at_call 95;refine(HFAV.out _ (by exact⟨rfl,rfl,rfl,Nat.le_refl _,fun _ _=>rfl⟩)).mono ?_;rintro e w2 ⟨⟨v2,rfl,hr2⟩,B2⟩;obtain⟨z5,z6,y5,y6,hl2⟩:=HC.out w2 B2;have HR2:Hid (Calls Tryz.prog 130 #[.int .i64 (en:Nat),v2] w2 fun e w'=>e=.returned (.int .i64 (bh:Nat))∧w'=w2):=HBH.out w2 _ v2 hr2;have HB2:Hid (aA U d.H g hx w ((w2.setCell ⟨d.H,5,none⟩ (.int .i64 (bh:Nat))).setCell ⟨d.H,6,none⟩ (.int .i64 0))):=HFIN.out w2 B2;clear hr2 B2)
   |(go_at_call 130;go_fit HR2.out;rintro e w3 ⟨rfl,hw3⟩;obtain rfl:=hw3))
  all_goals
   go_wp2;go_end0
   exact⟨rfl,HB2.out⟩
theorem aA.refl {w:World}{U:Nat→Prop}{d:HD}{g:PG}{h:HS}(p:HU w U d g h):aA U d.H g h w w:=aA.of p (Below.refl _ _)
theorem JX {W:World}{U:Nat→Prop}{d:HD}{g:PG}{h:HS}(p:HU W U d g h):aA U d.H g {h with changes:=h.changes+1} W (W.setCell ⟨d.H,6,none⟩ (.int .i64 ((h.changes:Int)+1))):=by
 refine⟨Fr.set (p.dR _ (Or.inl rfl)) 6 _,d,rfl,?_⟩
 rw[jy U W _ (World.size_setCell _ _ _)];exact p.set 6 _ _ rfl rfl rfl (fun j hj=>by
  by_cases e:j=6
  ·subst e;rw[if_pos rfl];show Value.int .i64 ((h.changes+1:Nat):Int)=_;rfl
  ·rw[if_neg e];unfold hval;simp only[if_neg e])
structure HT (w:World) (U:Nat→Prop) (H:Nat) (g:PG) (h:HS) (w':World):Prop where
 to:aA U H g h w w'
 tab:bK w'
 pI:kT w'
theorem aA.ht {w w':World}{U:Nat→Prop}{d:HD}{g:PG}{h h':HS}(t:aA U d.H g h' w w')(p:HG w U d g h):HT w U d.H g h' w':=⟨t,t.fr.tab p.hu.low p.tab,t.fr.pI p.hu.low p.pI⟩
def HS.bY (R:ByteArray→Sh)(h:HS):HS:={(aD R {h with aa:=h.aG} h.aK).1 with changes:=(aD R {h with aa:=h.aG} h.aK).1.changes+1}
theorem JY (R:ByteArray→Sh)(h:HS):h.one R=if(h.bY R).changes=(h.bY R).small+16 then(h.bY R).fK else h.bY R:=rfl
theorem tv {R:ByteArray→Sh}{h:HS}(p:cE R h)(q:Hpos h)(hR:sO R)(hk:0<h.kept.length):cE R (h.bY R)∧0<(h.bY R).kept.length∧((h.bY R).changes≠(h.bY R).small+16→Hpos (h.bY R))∧(h.bY R).entry<(h.bY R).kept.length∧(h.bY R).changes≤2000∧0≤(h.bY R).aa∧(h.bY R).aa≤18446744073709551615:=by
 have hs:=eu q;have p1:Hpos {h with aa:=h.aG}:=⟨q.entry,q.none,q.changes,hs.1,hs.2⟩;have p2:Hpos (aD R {h with aa:=h.aG} h.aK).1:=p1.tried _;have q2:cE R (aD R {h with aa:=h.aG} h.aK).1:=cE.tried (h:={h with aa:=h.aG}) (p.alike ⟨rfl,rfl,rfl⟩) hR _ (fc p);have hg:h.kept.length≤(aD R {h with aa:=h.aG} h.aK).1.kept.length:=dG R {h with aa:=h.aG} _;unfold HS.bY
 generalize(aD R {h with aa:=h.aG} h.aK).1=h1 at*
 have hk1:0<h1.kept.length:=by omega
 have hen:=p2.entry hk1;have hsm:h1.small≤1000:=by
  unfold HS.small;split
  ·omega
  ·rw[←uH];exact uI _ (h1.lT q2 _) 8 (by omega)
 have hch:=p2.changes
 refine⟨q2.alike ⟨rfl,rfl,rfl⟩,hk1,fun hne=>⟨p2.entry,fun hz=>by have:h1.kept.length=0:=hz;omega,?_,p2.pF,p2.pG⟩,hen,by show h1.changes+1≤2000;omega,p2.pF,p2.pG⟩
 have hne':h1.changes+1≠h1.small+16:=hne;show h1.changes+1<h1.small+16;omega
theorem aA.dY {w w1 w2:World}{U:Nat→Prop}{H:Nat}{g:PG}{h:HS}(t:aA U H g h w w1)(b:Below w1.heap.size w1 w2):aA U H g h w w2:=by
 obtain⟨d,hd,p⟩:=t.hu
 have:=aA.of p b
 rw[hd]at this;exact t.then this
structure TW (w:World) (U:Nat→Prop) (H:Nat) (g:PG) (h1:HS) (w3:World):Prop where
 to:aA U H g h1 w w3
 c6:w3.cell? ⟨H,6,none⟩=some (.int .i64 h1.changes)
 f6:w3.frozen? ⟨H,6,none⟩=false
 lt:H<w3.heap.size
theorem aA.tw {w w3:World}{U:Nat→Prop}{H:Nat}{g:PG}{h1:HS}(t:aA U H g h1 w w3):TW w U H g h1 w3:=by
 obtain⟨d,rfl,p⟩:=t.hu
 exact⟨t,p.cell 6 (by omega),p.thaw 6,p.lt _ (p.dR _ (Or.inl rfl))⟩
theorem JZ {w wr:World}{U:Nat→Prop}{H:Nat}{g:PG}{h0 h:HS}{d0:HD}(hd0:d0.H=H)(p0:HG w U d0 g h0)(t:aA U H g h w wr)(inv:cE g.R h)(pos:Hpos h)(hk:0<h.kept.length)(hz:AE h):
  Calls Tryz.prog 86 #[.pointer (some ⟨H,0,none⟩)] wr fun e w2=>e=.returned (.string h.aK)∧Hid (Calls Tryz.prog 79 #[.pointer (some ⟨H,0,none⟩),.string h.aK] w2 fun e w3=>(∃l,e=.returned (.int .u8 l))∧TW w U H g (aD g.R {h with aa:=h.aG} h.aK).1 w3):=by
 subst hd0;have q:=t.ht p0
 obtain⟨d1,hd1,p1⟩:=t.hu
 have G1:HG wr (Gr U w wr) d1 g h:=⟨p1,p0.ok,inv,pos,q.tab,q.pI⟩;have c:=zw G1 hk;rw[hd1]at c;refine c.mono ?_;rintro e w2 ⟨rfl,t2⟩
 refine⟨rfl,?_⟩
 have t02:=t.then t2;have q2:=t02.ht p0
 obtain⟨d2,hd2,p2⟩:=t02.hu
 have c2:=uG p2 p0.ok q2.tab (iJ (h:=h) g.mC inv) ⟨hz.tries,hz.hangs,hz.kept,hz.found,hz.az⟩ h.aK (fc inv);rw[hd2]at c2;refine c2.mono ?_;rintro e w3 ⟨rfl,t3⟩
 exact⟨⟨_,rfl⟩,(t02.then t3).tw⟩
def Ja (w:World)(U:Nat→Prop)(H:Nat)(g:PG)(h2:HS)(W5:World):Prop:=
 ∀W,Below W5.heap.size W5 W→aA U H g h2 w W∧(W.cell? ⟨H,6,none⟩=some (.int .i64 (h2.changes:Nat)))∧
   Calls Tryz.prog 87 #[.pointer (some ⟨H,0,none⟩)] W (fun e w'=>e=.returned (.int .i64 ((h2.small:Nat)+16:Int))∧Below W5.heap.size W5 w')∧
   Calls Tryz.prog 88 #[.pointer (some ⟨H,0,none⟩)] W (fun e w'=>e=.returned (.tuple #[])∧aA U H g h2.fK w w')
theorem I7 {w w3:World}{U:Nat→Prop}{H:Nat}{g:PG}{h:HS}(t:TW w U H g (aD g.R {h with aa:=h.aG} h.aK).1 w3)(inv:cE g.R h)(pos:Hpos h)(hk:0<h.kept.length):
  ∃W5,W5=w3.setCell ⟨H,6,none⟩ (.int .i64 (((aD g.R {h with aa:=h.aG} h.aK).1.changes:Int)+1))∧W5.cell? ⟨H,6,none⟩=some (.int .i64 ((h.bY g.R).changes:Nat))∧
  Ja w U H g (h.bY g.R) W5:=by
 obtain⟨i1,k1,_,e1,_⟩:=tv inv pos g.mC hk
 obtain⟨d3,rfl,p3⟩:=t.to.hu
 have t5:=t.to.then (JX p3)
 refine⟨_,rfl,World.cell?_setCell_same _ _ _ t.c6,fun W b=> ?_⟩
 have tW:=t5.dY b
 obtain⟨d6,hd6,p6⟩:=tW.hu
 obtain⟨G,K⟩:=p6.lk i1 e1 k1
 have cp:=xd K;have cm:=zx p6 i1 e1 k1;rw[hd6]at cp cm
 refine⟨tW,by have:=p6.cell 6 (by omega);rw[hd6]at this;exact this,cp.mono fun e w' ⟨x,y⟩=>⟨x,b.trans (y.mono b.size)⟩,cm.mono fun e w' ⟨x,y⟩=>⟨x,tW.then y⟩⟩
theorem K0 {w:World}{U:Nat→Prop}{d:HD}{g:PG}{h:HS}(p:HG w U d g h)(hk:0<h.kept.length)(n:Nat)(hn:n≤2000)(hz:∀k,k≤n→AE (h.go g.R k)):
  Calls Tryz.prog 44 #[.pointer (some ⟨d.H,0,none⟩),.int .i64 (n:Nat)] w fun e w'=>e=.returned (.tuple #[])∧aA U d.H g (h.go g.R n) w w':=by
 have HP:=hid p;have HZ:Hid (∀k,k≤n→AE (h.go g.R k)):=hz;have HGO:Hid (∀k,cE g.R (h.go g.R k)∧Hpos (h.go g.R k)∧0<(h.go g.R k).kept.length):=fun k=>⟨p.inv.go g.mC k,(Hpos.go p.pos p.inv g.mC hk k).1,(Hpos.go p.pos p.inv g.mC hk k).2⟩
 have H0:Hid (aA U d.H g (h.go g.R 0) w w):=aA.refl p.hu;clear p hz;go_in;go_wp2_with fail
 go_loopw [5] (fun i wr=>∃k:Nat,k≤n∧i=.int .i64 k∧aA U d.H g (h.go g.R k) w wr) (fun i _=>n-(intOf i).toNat)
 case atStart=>exact ⟨0,by omega,rfl,H0.out⟩
 case round=>
  obtain⟨k,hkn,rfl,hT⟩:=hrel
  by_cases hlt:k<n
  ·have hi1:(k:Int)<(n:Int):=by omega
   obtain⟨hinv,hpos,hkk⟩:=HGO.out k
   have hone:h.go g.R (k+1)=if((h.go g.R k).bY g.R).changes=((h.go g.R k).bY g.R).small+16 then((h.go g.R k).bY g.R).fK else(h.go g.R k).bY g.R:=JY g.R (h.go g.R k);have H1:Hid (Calls Tryz.prog 86 #[.pointer (some ⟨d.H,0,none⟩)] wr fun e w2=>e=.returned (.string (h.go g.R k).aK)∧Hid (Calls Tryz.prog 79 #[.pointer (some ⟨d.H,0,none⟩),.string (h.go g.R k).aK] w2 fun e w3=>(∃l,e=.returned (.int .u8 l))∧TW w U d.H g (aD g.R {(h.go g.R k)with aa:=(h.go g.R k).aG} (h.go g.R k).aK).1 w3)):=JZ rfl HP.out hT hinv hpos hkk (HZ.out k (by omega));have HRE:Hid (∀w3,TW w U d.H g (aD g.R {(h.go g.R k)with aa:=(h.go g.R k).aG} (h.go g.R k).aK).1 w3→∃W5,W5=w3.setCell ⟨d.H,6,none⟩ (.int .i64 (((aD g.R {(h.go g.R k)with aa:=(h.go g.R k).aG} (h.go g.R k).aK).1.changes:Int)+1))∧W5.cell? ⟨d.H,6,none⟩=some (.int .i64 (((h.go g.R k).bY g.R).changes:Nat))∧Ja w U d.H g ((h.go g.R k).bY g.R) W5):=fun w3 t=>I7 t hinv hpos hkk
   have hc1:(aD g.R {(h.go g.R k)with aa:=(h.go g.R k).aG} (h.go g.R k).aK).1.changes≤2000:=by
    have:=(tv hinv hpos g.mC hkk).2.2.2.2.1
    have h2:(aD g.R {(h.go g.R k)with aa:=(h.go g.R k).aG} (h.go g.R k).aK).1.changes+1≤2000:=this;omega
   clear hT hinv hpos hkk;generalize hgk:h.go g.R (k+1)=hk1 at*;have HGK:Hid (h.go g.R (k+1)=hk1):=hgk;clear hgk;have HON:Hid (hk1=if((h.go g.R k).bY g.R).changes=((h.go g.R k).bY g.R).small+16 then((h.go g.R k).bY g.R).fK else(h.go g.R k).bY g.R):=hone;clear hone
   generalize(h.go g.R k).aK=ct at*
   generalize(aD g.R {(h.go g.R k)with aa:=(h.go g.R k).aG} ct).1=h1 at*
   generalize(h.go g.R k).bY g.R=h2 at*
   go_wp2_with fail
   refine H1.out.mono ?_;rintro e w2 ⟨rfl,H2⟩;go_wp2_with fail
   refine H2.out.mono ?_;rintro e w3 ⟨⟨l3,rfl⟩,t3⟩;have c6:=t3.c6;have f6:=t3.f6;have hl3:=t3.lt
   obtain⟨W5,hW5,hc5,hr5⟩:=HRE.out w3 t3
   clear t3 H1 H2;generalize h1.changes=ch1 at*;go_wp2_with fail
   rw[←hW5];clear hW5 c6 f6;have HPL:Hid (∀W,Below W5.heap.size W5 W→Calls Tryz.prog 87 #[.pointer (some ⟨d.H,0,none⟩)] W fun e w'=>e=.returned (.int .i64 ((h2.small:Nat)+16:Int))∧Below W5.heap.size W5 w'):=fun W b=>(hr5 W b).2.2.1
   have HMV:Hid (∀W,Below W5.heap.size W5 W→Calls Tryz.prog 88 #[.pointer (some ⟨d.H,0,none⟩)] W fun e w'=>e=.returned (.tuple #[])∧aA U d.H g h2.fK w w'):=fun W b=>(hr5 W b).2.2.2
   have HNO:Hid (∀W,Below W5.heap.size W5 W→aA U d.H g h2 w W):=fun W b=>(hr5 W b).1
   have HC5:Hid (∀W,Below W5.heap.size W5 W→W.cell? ⟨d.H,6,none⟩=some (.int .i64 (h2.changes:Nat))):=fun W b=>(hr5 W b).2.1
   clear hr5;generalize h2.changes=ch2 at*;generalize h2.small=sm at*;go_region_held3 (fun W=>W.cell? ⟨d.H,6,none⟩=some (.int .i64 (ch2:Nat))) (go_keep) (first|(go_at_call 87;go_fit (HPL.out W5.drew (Below.refl _ _).drew);rintro e w6 ⟨rfl,B6⟩;have HB6:Hid (Below W5.heap.size W5 w6):=B6;have c66:=HC5.out w6 B6;clear B6))
   all_goals
    by_cases hq:ch2=sm+16
    ·have hq':(ch2:Int)=(sm:Int)+16:=(by omega);have HN:Hid (hk1=h2.fK):=by show _=_;rw[HON.out,if_pos hq]
     clear hq;go_wp2_with fail
     refine(HMV.out w6 HB6.out).mono ?_
     rintro e w7 ⟨rfl,t7⟩;have HT7:Hid (aA U d.H g hk1 w w7):=by rw[HN.out];exact t7
     clear t7;go_wp2_with fail
     go_roundw
     case rel=>exact ⟨k+1,by omega,by go_num,by rw[HGK.out];exact HT7.out⟩
     case measure=>simp [intOf];omega
    ·have hq':¬(ch2:Int)=(sm:Int)+16:=(by omega);have HT7:Hid (aA U d.H g hk1 w w6):=by rw[HON.out,if_neg hq];exact HNO.out w6 HB6.out
     clear hq;go_wp2_with fail
     go_roundw
     case rel=>exact ⟨k+1,by omega,by go_num,by rw[HGK.out];exact HT7.out⟩
     case measure=>simp [intOf];omega
  ·have hi1:¬(k:Int)<(n:Int):=(by omega);have hkn':k=n:=(by omega);have HT':=hid (hkn'▸hT);clear hT hkn';go_wp2_with fail
   go_end0
   exact⟨rfl,HT'.out⟩
end Go.Proofs.YtmpgjkhchfcjlaaGreatDoor
