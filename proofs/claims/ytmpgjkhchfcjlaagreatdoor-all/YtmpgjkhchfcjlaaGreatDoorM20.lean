import Derived.Test.YtmpgjkhchfcjlaaGreatDoorM18
import Derived.Shelf.GgClosure.Gives
namespace Go.Proofs.YtmpgjkhchfcjlaaGreatDoor
open Go.RowKit
set_option maxHeartbeats 2000000
structure Hpos (h:HS):Prop where
 entry:0<h.kept.length→h.entry<h.kept.length
 none:h.kept.length=0→h.entry=0∧h.changes=0
 changes:h.changes<h.small+16
 pF:0≤h.aa
 pG:h.aa≤18446744073709551615
theorem C9 (l o:List Int)(x:Int):0≤(eY l o x).2∧(eY l o x).2≤18446744073709551615:=by
 unfold eY;dsimp only;repeat' split
 all_goals exact iA _
theorem yL (l o:List Int)(x:Int)(h0:0≤x)(h1:x≤18446744073709551615):∀n,0≤(cN l o x n).2∧(cN l o x n).2≤18446744073709551615
 |0=>⟨h0,h1⟩
 |_+1=>C9 _ _ _
theorem Ca (l o:List Int)(x:Int):0≤(j8 l o x).2∧(j8 l o x).2≤18446744073709551615:=yL _ _ _ (iA x).1 (iA x).2 _
theorem eu {h:HS}(p:Hpos h):0≤h.aG∧h.aG≤18446744073709551615:=by
 unfold HS.aG;split
 ·exact⟨p.pF,p.pG⟩
 ·unfold HS.lq;exact Ca _ _ _
theorem j9 (R:ByteArray→Sh)(h:HS)(s:ByteArray):(aD R h s).1.entry=h.entry∧(aD R h s).1.changes=h.changes∧(aD R h s).1.aa=h.aa∧(aD R h s).1.worked=h.worked∧(aD R h s).1.tries=h.tries+1∧(aD R h s).1.hangs≤h.hangs+1:=by
 unfold aD;repeat' split
 all_goals exact⟨rfl,rfl,rfl,rfl,rfl,by dsimp only;omega⟩
theorem Ej (R:ByteArray→Sh)(h:HS)(s:ByteArray)(n:Nat)(hn:n<h.kept.length):(aD R h s).1.text n=h.text n:=by
 obtain⟨⟨t,e⟩,_⟩:=sQ R h s
 unfold HS.text;rw[e,List.getElem?_append_left hn]
theorem sY (R:ByteArray→Sh)(h:HS)(s:ByteArray)(hn:h.entry<h.kept.length):(aD R h s).1.small=h.small:=by
 unfold HS.small
 obtain⟨e1,_,_,e4,_⟩:=j9 R h s
 rw[e1,e4,Ej R h s _ hn]
theorem oG (aa:Int)(h0:0≤aa)(h1:aa≤18446744073709551615):Hpos (HS.zero aa):=⟨by simp[HS.zero],fun _=>⟨rfl,rfl⟩,by show 0<_;omega,h0,h1⟩
theorem Hpos.tried {R:ByteArray→Sh}{h:HS}(p:Hpos h)(s:ByteArray):Hpos (aD R h s).1:=by
 obtain⟨e1,e2,e3,e4,_⟩:=j9 R h s
 have hg:=dG R h s
 refine⟨fun hk=> ?_,fun hk=> ?_,?_,by rw[e3];exact p.pF,by rw[e3];exact p.pG⟩
 ·rw[e1];by_cases hz:0<h.kept.length
  ·have:=p.entry hz;omega
  ·have:=(p.none (by omega)).1;omega
 ·rw[e1,e2];exact p.none (by omega)
 ·rw[e2];by_cases hz:0<h.kept.length
  ·rw[sY R h s (p.entry hz)];exact p.changes
  ·have:=(p.none (by omega)).2;omega
theorem Hpos.tries {R:ByteArray→Sh}:∀(l:List ByteArray) (h:HS),Hpos h→Hpos (bX R h l)
 |[],_,p=>p
 |s::l,_,p=>Hpos.tries l _ (p.tried s)
theorem Hpos.iI {R:ByteArray→Sh}:∀(l:List (Bool×ByteArray)) (h h':HS),Hpos h→gJ R h l=some h'→Hpos h'
 |[],_,_,p,e=>by cases e;exact p
 |x::l,h,h',p,e=>by
  unfold gJ at e;split at e
  ·exact Hpos.iI l _ h' (p.tried x.2) e
  ·cases e
theorem yM (n:Nat)(l:List Nat)(h:l≠[]):bZ n l∈l:=by
 unfold bZ
 cases e:l.find? fun m=>decide (n<m)with
 |some m=>exact List.mem_of_find?_eq_some e
 |none=>
  cases l with
  |nil=>exact absurd rfl h
  |cons a l=>simp
theorem Hpos.one {R:ByteArray→Sh}{h:HS}(p:Hpos h)(q:cE R h)(hR:sO R)(hk:0<h.kept.length):Hpos (h.one R):=by
 have hs:=eu p;have p1:Hpos {h with aa:=h.aG}:=⟨p.entry,p.none,p.changes,hs.1,hs.2⟩;have p2:Hpos (aD R {h with aa:=h.aG} h.aK).1:=p1.tried _;have q2:=cE.tried (h:={h with aa:=h.aG}) (q.alike ⟨rfl,rfl,rfl⟩) hR _ (fc q);have hg:h.kept.length≤(aD R {h with aa:=h.aG} h.aK).1.kept.length:=dG R {h with aa:=h.aG} _;unfold HS.one;dsimp only
 generalize(aD R {h with aa:=h.aG} h.aK).1=h1 at p2 q2 hg⊢
 have hsm:({h1 with changes:=h1.changes+1}:HS).small=h1.small:=rfl;split
 ·refine⟨fun _=> ?_,fun hz=> ?_,?_,p2.pF,p2.pG⟩
  ·show bZ h1.entry (bE h1.kept)<h1.kept.length;exact JL _ _ (yM _ _ (nI (h:=h1) q2 hR (by omega)))
  ·have:h1.kept.length=0:=hz
   omega
  ·show 0<_;omega
 ·rename_i hne
  have hne':=hne
  exact⟨p2.entry,fun hz=>by have:h1.kept.length=0:=hz;omega,by show h1.changes+1<h1.small+16;have:=p2.changes;omega,p2.pF,p2.pG⟩
theorem Hpos.go {R:ByteArray→Sh}{h:HS}(p:Hpos h)(q:cE R h)(hR:sO R)(hk:0<h.kept.length):∀n,Hpos (h.go R n)∧0<(h.go R n).kept.length
 |0=>⟨p,hk⟩
 |n+1=>by
  obtain⟨h1,h2⟩:=Hpos.go p q hR hk n
  exact⟨h1.one (q.go hR n) hR h2,Nat.lt_of_lt_of_le h2 (qN R _)⟩
structure Fr (U:Nat→Prop) (w w':World):Prop where
 os:w'.os=w.os
 tape:w'.tape=w.tape
 output:w'.output=w.output
 size:w.heap.size≤w'.heap.size
 block:∀k,k<w.heap.size→¬U k→w'.heap[k]?=w.heap[k]?
def Gr (U:Nat→Prop)(w w':World):Nat→Prop:=fun k=>U k∨(w.heap.size≤k∧k<w'.heap.size)
theorem Fr.refl (U:Nat→Prop)(w:World):Fr U w w:=⟨rfl,rfl,rfl,Nat.le_refl _,fun _ _ _=>rfl⟩
theorem Fr.trans {U:Nat→Prop}{w w1 w2:World}(p:Fr U w w1)(q:Fr (Gr U w w1) w1 w2):Fr U w w2:=
 ⟨q.os.trans p.os,q.tape.trans p.tape,q.output.trans p.output,Nat.le_trans p.size q.size,fun k hk hu=>(q.block k (Nat.lt_of_lt_of_le hk p.size) (fun c=>c.elim hu (fun d=>by omega))).trans (p.block k hk hu)⟩
theorem Fr.same {U:Nat→Prop}{w w1 w2:World}(p:Fr U w w1)(q:Fr U w1 w2):Fr U w w2:=
 ⟨q.os.trans p.os,q.tape.trans p.tape,q.output.trans p.output,Nat.le_trans p.size q.size,fun k hk hu=>(q.block k (Nat.lt_of_lt_of_le hk p.size) hu).trans (p.block k hk hu)⟩
theorem Fr.below {U:Nat→Prop}{w w':World}(b:Below w.heap.size w w'):Fr U w w':=⟨b.os,b.tape,b.output,b.size,fun k hk _=>b.block k hk⟩
theorem Fr.set {U:Nat→Prop}{w:World}{H:Nat}(hu:U H)(j:Nat)(u:Value):Fr U w (w.setCell ⟨H,j,none⟩ u):=
 ⟨rfl,rfl,rfl,by simp,fun k _ hk=>heap_setCell_other w ⟨H,j,none⟩ k u (fun e=>hk (by rw[e];exact hu))⟩
theorem Fr.grown {U:Nat→Prop}{w w':World}{v:Value}(g:w.grownBy w' v.ownBlock)(hu:∀k,v.ownBlock=some k→U k):Fr U w w':=
 ⟨g.os,g.tape,g.output,g.size,fun k hk hn=>g.block k hk (fun e=>hn (hu k e.symm))⟩
theorem Fr.wide {U V:Nat→Prop}{w w':World}(p:Fr U w w')(h:∀k,U k→V k):Fr V w w':=⟨p.os,p.tape,p.output,p.size,fun k hk hn=>p.block k hk (fun c=>hn (h k c))⟩
theorem mK {U:Nat→Prop}{w w1 w2:World}(h1:w.heap.size≤w1.heap.size)(h2:w1.heap.size≤w2.heap.size):Gr (Gr U w w1) w1 w2=Gr U w w2:=by
 funext k
 apply propext;unfold Gr;constructor
 ·rintro((h|h)|h)
  ·exact Or.inl h
  ·exact Or.inr ⟨h.1,by omega⟩
  ·exact Or.inr ⟨by omega,h.2⟩
 ·rintro(h|h)
  ·exact Or.inl (Or.inl h)
  ·by_cases c:k<w1.heap.size
   ·exact Or.inl (Or.inr ⟨h.1,c⟩)
   ·exact Or.inr ⟨by omega,h.2⟩
theorem jy (U:Nat→Prop)(w w':World)(h:w'.heap.size=w.heap.size):Gr U w w'=U:=by
 funext k
 apply propext;unfold Gr
 exact⟨fun c=>c.elim id (fun d=>by omega),Or.inl⟩
theorem Fr.tab {U:Nat→Prop}{w w':World}(p:Fr U w w')(hl:∀k,U k→3≤k)(t:bK w):bK w':=
 fun k hk=>(World.cell?_of_block (w:=w) (a:=⟨0,k,none⟩) (p.block 0 t.pos (fun c=>by have:=hl 0 c;omega))).trans (t k hk)
theorem kT.two {w:World}(h:kT w):1<w.heap.size:=World.block_lt_of_cell? w ⟨1,0,none⟩ (h 0 (by omega))
theorem Fr.pI {U:Nat→Prop}{w w':World}(p:Fr U w w')(hl:∀k,U k→3≤k)(t:kT w):kT w':=
 fun k hk=>(World.cell?_of_block (w:=w) (a:=⟨1,k,none⟩) (p.block 1 t.two (fun c=>by have:=hl 1 c;omega))).trans (t k hk)
structure PG where
 c:Nat→Int
 L:Nat
 N:Nat
 fuel:Int
structure HD where
 H:Nat
 cb:Nat
 cc:Nat
 vk:Value
 vf:Value
 vc:Value
 xk:List Value
def hval (d:HD)(g:PG)(h:HS)(j:Nat):Value:=
 if j=0 then .slice (some ⟨d.cb,0,none⟩) g.L d.cc else if j=1 then .int .i64 g.fuel else if j=2 then .int .u64 h.aa else if j=3 then .int .i64 h.tries else if j=4 then .int .i64 h.hangs else if j=5 then .int .i64 h.entry else if j=6 then .int .i64 h.changes else if j=7 then d.vk else if j=8 then d.vf else if j=9 then d.vc else .bool (h.worked (j-10))
def HD.Wr (d:HD)(k:Nat):Prop:=k=d.H∨d.vk.ownBlock=some k∨d.vf.ownBlock=some k∨d.vc.ownBlock=some k
def bH (l:List Cr):List Value:=l.flatMap fun c=>[.string c.text,.int .i64 c.fault,.int .i64 c.place]
def oH (l:List (Bool×ByteArray)):List Value:=l.map fun x=>.int .u8 (letter x.1)
def KeptAt (w:World)(U:Nat→Prop)(d:HD)(i:Nat)(k:dQ):Prop:=
 d.xk[2*i]?=some (.string k.text)∧∃g,d.xk[2*i+1]?=some (.slice (some ⟨g,0,none⟩) 64 64)∧(∀p,p<64→w.cell? ⟨g,p,none⟩=some (.int .u8 (k.aV p)))∧¬d.Wr g∧U g
structure HU (w:World) (U:Nat→Prop) (d:HD) (g:PG) (h:HS):Prop where
 cell:∀j,j<40→w.cell? ⟨d.H,j,none⟩=some (hval d g h j)
 thaw:∀j,w.frozen? ⟨d.H,j,none⟩=false
 rk:w.ownsRow 0 147 2 d.vk h.kept.length d.xk
 rf:w.ownsRow 0 67 3 d.vf h.found.length (bH h.found)
 rc:w.ownsRow 0 5 1 d.vc h.az.length (oH h.az)
 nk:∀b,d.vk.ownBlock=some b→b≠d.H∧d.vf.ownBlock≠some b∧d.vc.ownBlock≠some b
 nf:∀b,d.vf.ownBlock=some b→b≠d.H∧d.vc.ownBlock≠some b
 nc:∀b,d.vc.ownBlock=some b→b≠d.H
 code:Laid w d.cb 0 g.L d.cc g.c
 dX:¬d.Wr d.cb
 kept:∀i k,h.kept[i]?=some k→KeptAt w U d i k
 dR:∀k,d.Wr k→U k
 kW:U d.cb
 lt:∀k,U k→k<w.heap.size
 low:∀k,U k→3≤k
theorem ay {w w':World}{base:Nat}{e:TypeId}{size:Nat}{v:Value}{n:Nat}{xs:List Value}(h:w.ownsRow base e size v n xs)(hb:∀b,v.ownBlock=some b→w'.heap[b]?=w.heap[b]?):w'.ownsRow base e size v n xs:=by
 refine⟨h.1,?_⟩
 rcases h.2 with hn|⟨b,cap,cur,hv,hg,hh,r⟩
 ·exact .inl hn
 ·exact .inr ⟨b,cap,cur,hv,hg,(hb b (by rw[hv];rfl)).trans hh,r⟩
theorem aL {w:World}{base:Nat}{e:TypeId}{size:Nat}{v:Value}{n:Nat}{xs:List Value}(h:w.ownsRow base e size v n xs){b:Nat}(hb:v.ownBlock=some b):b<w.heap.size:=by
 rcases h.2 with⟨hn,_⟩|⟨b',cap,cur,hv,hg,hh,r⟩
 ·rw[hn]at hb;cases hb
 ·rw[hv]at hb
  have:b'=b:=by simpa[Value.ownBlock]using hb
  subst this
  exact(Array.getElem?_eq_some_iff.1 hh).1
theorem KeptAt.keep {w w':World}{U V:Nat→Prop}{d:HD}{i:Nat}{k:dQ}(h:KeptAt w U d i k)(hb:∀b,U b→¬d.Wr b→w'.heap[b]?=w.heap[b]?)(hv:∀b,U b→V b):KeptAt w' V d i k:=by
 obtain⟨h1,b,h2,h3,h4,h5⟩:=h
 exact⟨h1,b,h2,fun p hp=>(World.cell?_of_block (w:=w) (a:=⟨b,p,none⟩) (hb b h5 h4)).trans (h3 p hp),h4,hv b h5⟩
theorem Laid.of_block {w w':World}{cb co L cap:Nat}{c:Nat→Int}(h:Laid w cb co L cap c)(hb:w'.heap[cb]?=w.heap[cb]?):Laid w' cb co L cap c:=
 ⟨fun i hi=>(World.cell?_of_block (w:=w) (a:=⟨cb,co+i,none⟩) hb).trans (h.cell i hi),h.room,h.room',h.ny⟩
theorem HU.keep {w w':World}{U V:Nat→Prop}{d:HD}{g:PG}{h:HS}(p:HU w U d g h)(hb:∀k,U k→w'.heap[k]?=w.heap[k]?)(hUV:∀k,U k→V k)(hl:∀k,V k→k<w'.heap.size)(hl2:∀k,V k→3≤k):HU w' V d g h where
 cell:=fun j hj=>(World.cell?_of_block (w:=w) (a:=⟨d.H,j,none⟩) (hb d.H (p.dR _ (Or.inl rfl)))).trans (p.cell j hj)
 thaw:=fun j=>(World.frozen?_of_block (w:=w) (a:=⟨d.H,j,none⟩) (hb d.H (p.dR _ (Or.inl rfl)))).trans (p.thaw j)
 rk:=ay p.rk (fun b e=>hb b (p.dR b (Or.inr (Or.inl e))))
 rf:=ay p.rf (fun b e=>hb b (p.dR b (Or.inr (Or.inr (Or.inl e)))))
 rc:=ay p.rc (fun b e=>hb b (p.dR b (Or.inr (Or.inr (Or.inr e)))))
 nk:=p.nk
 nf:=p.nf
 nc:=p.nc
 code:=p.code.of_block (hb _ p.kW)
 dX:=p.dX
 kept:=fun i k hk=>(p.kept i k hk).keep (fun b hu _=>hb b hu) hUV
 dR:=fun k hk=>hUV k (p.dR k hk)
 kW:=hUV _ p.kW
 lt:=hl
 low:=hl2
theorem HU.below {w w':World}{U:Nat→Prop}{d:HD}{g:PG}{h:HS}(p:HU w U d g h)(b:Below w.heap.size w w'):HU w' U d g h:=
 p.keep (fun k hk=>b.block k (p.lt k hk)) (fun _ h=>h) (fun k hk=>Nat.lt_of_lt_of_le (p.lt k hk) b.size) p.low
theorem HU.two {w:World}{U:Nat→Prop}{d:HD}{g:PG}{h:HS}(p:HU w U d g h):3≤w.heap.size:=by
 have h1:=p.low _ p.kW;have h2:=p.lt _ p.kW;omega
theorem HU.gr {w w':World}{U:Nat→Prop}{d:HD}{g:PG}{h:HS}(p:HU w U d g h)(b:Below w.heap.size w w'):HU w' (Gr U w w') d g h:=
 p.keep (fun k hk=>b.block k (p.lt k hk)) (fun _ h=>Or.inl h) (fun k hk=>hk.elim (fun c=>Nat.lt_of_lt_of_le (p.lt k c) b.size) (fun c=>c.2)) (fun k hk=>hk.elim (p.low k) (fun c=>by have:=p.two;omega))
theorem HU.set {w:World}{U:Nat→Prop}{d:HD}{g:PG}{h:HS}(p:HU w U d g h)(i:Nat)(u:Value)(h':HS)(hk:h'.kept=h.kept)(hf:h'.found=h.found)(hh:h'.az=h.az)
  (hv:∀j,j<40→hval d g h' j=if j=i then u else hval d g h j):HU (w.setCell ⟨d.H,i,none⟩ u) U d g h' where
 cell:=by
  intro j hj;rw[hv j hj];by_cases e:j=i
  ·subst e;rw[if_pos rfl];exact World.cell?_setCell_same _ _ _ (p.cell j hj)
  ·rw[if_neg e,World.cell?_setCell_other _ _ _ _ (fun c=>e (by injection c with _ c2 _;exact c2.symm))];exact p.cell j hj
 thaw:=fun j=>by rw[World.frozen?_setCell];exact p.thaw j
 rk:=by rw[hk];exact ay p.rk (fun b e=>heap_setCell_other w ⟨d.H,i,none⟩ b u (p.nk b e).1)
 rf:=by rw[hf];exact ay p.rf (fun b e=>heap_setCell_other w ⟨d.H,i,none⟩ b u (p.nf b e).1)
 rc:=by rw[hh];exact ay p.rc (fun b e=>heap_setCell_other w ⟨d.H,i,none⟩ b u (p.nc b e))
 nk:=p.nk
 nf:=p.nf
 nc:=p.nc
 code:=p.code.of_block (heap_setCell_other w ⟨d.H,i,none⟩ _ u (fun c=>p.dX (Or.inl c)))
 dX:=p.dX
 kept:=by
  intro j k hj;rw[hk]at hj
  exact(p.kept j k hj).keep (fun b _ hw=>heap_setCell_other w ⟨d.H,i,none⟩ b u (fun c=>hw (Or.inl c))) (fun _ h=>h)
 dR:=p.dR
 kW:=p.kW
 lt:=fun k hk=>by rw[World.size_setCell];exact p.lt k hk
 low:=p.low
def kindOk (x:Int):Prop:=x=0∨x=1∨x=2
theorem Ht (σ:St)(k:Nat)(n:Int)(h:kindOk σ.kind):kindOk (fT σ k n).kind:=by
 unfold fT;dsimp only;unfold vn;repeat' split
 all_goals first|exact h|exact Or.inl rfl|exact Or.inr (Or.inl rfl)
theorem El (σ:St)(k:Nat)(n fuel:Int)(h:kindOk σ.kind):kindOk (mq σ k n fuel).kind:=by
 unfold mq;split
 ·exact h
 split
 ·exact Or.inr (Or.inr rfl)
 split
 ·exact Or.inr (Or.inl rfl)
 ·exact Ht _ _ _ h
theorem qT (c aY:Nat→Int)(fuel:Int)(inp:ByteArray):∀n,kindOk (after c aY fuel (jm inp) n).σ.kind
 |0=>Or.inl rfl
 |n+1=>El _ _ _ _ (qT c aY fuel inp n)
theorem wJ (cnt:Nat→Int)(ah b:Int)(h:∀i,0≤cnt i)(i:Nat):0≤fW cnt ah b i:=by
 unfold fW;split
 ·show 0≤(if i=_ then _ else _);split
  ·have:=h (bD ah b);omega
  ·exact h i
 ·exact h i
theorem oI (c aY:Nat→Int)(fuel:Int)(inp:ByteArray):∀n i,0≤(after c aY fuel (jm inp) n).cnt i
 |0,_=>Int.le_refl _
 |n+1,i=>by
  show 0≤(if _ then _ else _:Nat→Int) i;split
  ·exact oI c aY fuel inp n i
  ·exact wJ _ _ _ (oI c aY fuel inp n) i
def oJ (c aY:Nat→Int)(fuel:Int)(inp:ByteArray)(n:Nat):Prop:=(after c aY fuel (jm inp) n).σ.ended=true∧∀m,m<n→(after c aY fuel (jm inp) m).σ.ended=false
theorem oJ.one {c aY:Nat→Int}{fuel:Int}{inp:ByteArray}{n m:Nat}(h:oJ c aY fuel inp n)(k:oJ c aY fuel inp m):n=m:=by
 rcases Nat.lt_trichotomy n m with e|e|e
 ·have:=k.2 n e;rw[h.1]at this;cases this
 ·exact e
 ·have:=h.2 m e;rw[k.1]at this;cases this
def Hu (τ:RS):Sh:=⟨τ.σ.kind,τ.σ.fault,τ.σ.place,fun i=>dU (τ.cnt i)⟩
open Classical in
noncomputable def qU (c aY:Nat→Int)(fuel:Int)(inp:ByteArray):Sh:=
 if h:∃n,oJ c aY fuel inp n then Hu (after c aY fuel (jm inp) (Classical.choose h))else⟨0,0,0,fun _=>0⟩
theorem wK {c aY:Nat→Int}{fuel:Int}{inp:ByteArray}{n:Nat}(h:oJ c aY fuel inp n):qU c aY fuel inp=Hu (after c aY fuel (jm inp) n):=by
 unfold qU;have e:∃n,oJ c aY fuel inp n:=⟨n,h⟩;rw[dif_pos e,(Classical.choose_spec e).one h]
theorem Em (c aY:Nat→Int)(fuel:Int):sO (qU c aY fuel):=by
 refine⟨fun s _=> ?_,fun s _ p=> ?_⟩
 ·unfold qU;split
  ·exact qT _ _ _ _ _
  ·exact Or.inl rfl
 ·unfold qU;split
  ·exact BS _ (oI _ _ _ _ _ _)
  ·exact Or.inl rfl
def nK (n:Nat)(p:Nat→Bool)(r:Int):Prop:=(r= -1∧∀j,j<n→p j=false)∨∃j:Nat,j<n∧p j=true∧r=(j:Int)
theorem jz {n:Nat}{p:Nat→Bool}{r:Int}(h:nK n p r):decide (0≤r)=(List.range n).any p:=by
 rcases h with⟨rfl,h⟩|⟨j,h1,h2,rfl⟩
 ·have:(List.range n).any p=false:=by
   rw[List.any_eq_false];intro j hj;rw[h j (List.mem_range.1 hj)];simp
  rw[this];rfl
 ·have:(List.range n).any p=true:=List.any_eq_true.2 ⟨j,List.mem_range.2 h1,h2⟩
  rw[this];simp
def jb (g:Nat)(lb:Array Value)(n:Nat)(val:Nat→Value)(p:Nat→Bool)(w:World):Prop:=
 ∀(W:World) (j:Nat),j<n→Below w.heap.size w W→Calls Tryz.prog g (#[val j]++lb) W fun e w'=>e=.returned (.bool (p j))∧Below w.heap.size w w'
theorem En (g:Nat)(lb:Array Value)(eg:∀args w,(callFunc g args).run Tryz.prog w=.ok (.enter g args) w)(b n c:Nat)(x0 x1 x2:Nat→Value)(p:Nat→Bool)(w:World)
  (hp:jb g lb n (fun j=>.agg #[x0 j,x1 j,x2 j]) p w)(hn:n≤9223372036854775807)(hb:b<w.heap.size)
  (h0:∀j,j<n→w.cell? ⟨b,j*3,none⟩=some (x0 j))(h1:∀j,j<n→w.cell? ⟨b,j*3+1,none⟩=some (x1 j))(h2:∀j,j<n→w.cell? ⟨b,j*3+2,none⟩=some (x2 j)):
  Calls Tryz.prog 211 #[.slice (some ⟨b,0,none⟩) n c,.func (.func g) #[] lb] w fun e w'=>∃r,nK n p r∧e=.returned (.int .i64 r)∧Below w.heap.size w w':=by
 go_in;go_wp2;go_loopg [5,8] n (fun gg _ s8 wr=>∃kk:Nat,kk≤n∧n-kk≤gg∧s8=.int .i64 kk∧Aside (Below w.heap.size w wr)∧Aside (∀j,j<kk→p j=false))
 case atStart=>exact ⟨0,Nat.zero_le _,by omega,rfl,Below.refl _ w,fun j hj=>absurd hj (Nat.not_lt_zero _)⟩
 case round=>
  obtain⟨kk,hkk,hg,rfl,BW,A⟩:=hrel
  by_cases hlt:kk<n
  ·have hltz:(kk:Int)<(n:Int):=(by omega);have l0:=(BW.out.cell (p:=⟨b,kk*3,none⟩) hb).trans (h0 kk hlt);have l1:=(BW.out.cell (p:=⟨b,kk*3+1,none⟩) hb).trans (h1 kk hlt);have l2:=(BW.out.cell (p:=⟨b,kk*3+2,none⟩) hb).trans (h2 kk hlt);have hcall:=hp wr kk hlt BW.out;dsimp only at hcall;clear hp h0 h1 h2;generalize x0 kk=y0 at l0 hcall;generalize x1 kk=y1 at l1 hcall;generalize x2 kk=y2 at l2 hcall
   cases hq:p kk with
   |true=>
    rw[hq]at hcall;go_wp2_with(go_at_fn g;refine hcall.mono ?_;rintro e w' ⟨rfl,hb'⟩)
    go_ret
    exact⟨_,Or.inr ⟨kk,hlt,hq,rfl⟩,rfl,hb'⟩
   |false=>
    rw[hq]at hcall;go_wp2_with(go_at_fn g;refine hcall.mono ?_;rintro e w' ⟨rfl,hb'⟩)
    go_roundg (n-(kk+1))
    case measure=>omega
    case rel=>
     refine⟨kk+1,by omega,by omega,by go_num,hb',(show Aside _ from fun j hj=> ?_)⟩
     by_cases e:j=kk
     ·subst e;exact hq
     ·exact A.out j (by omega)
  ·have hltz:¬(kk:Int)<(n:Int):=by omega
   have:kk=n:=by omega
   subst this;go_wp2;go_ret
   exact⟨_,Or.inl ⟨rfl,A.out⟩,rfl,BW.out⟩
theorem Cc (g:Nat)(lb:Array Value)(c:Nat)(w:World):
  Calls Tryz.prog 211 #[.slice none 0 c,.func (.func g) #[] lb] w fun e w'=>e=.returned (.int .i64 (-1))∧w'=w:=by
 go_in;go_wp2;go_loopg [5,8] 0 (fun _ _ s8 wr=>s8=.int .i64 0∧wr=w)
 case atStart=>exact ⟨rfl,rfl⟩
 case round=>
  obtain⟨rfl,rfl⟩:=hrel
  go_wp2;go_ret
  exact⟨rfl,rfl⟩
theorem Eo (g:Nat)(lb:Array Value)(eg:∀args w,(callFunc g args).run Tryz.prog w=.ok (.enter g args) w)(b n c:Nat)(x0 x1 x2:Nat→Value)(p:Nat→Bool)(w:World)
  (hp:jb g lb n (fun j=>.agg #[x0 j,x1 j,x2 j]) p w)(hn:n≤9223372036854775807)(hb:b<w.heap.size)
  (h0:∀j,j<n→w.cell? ⟨b,j*3,none⟩=some (x0 j))(h1:∀j,j<n→w.cell? ⟨b,j*3+1,none⟩=some (x1 j))(h2:∀j,j<n→w.cell? ⟨b,j*3+2,none⟩=some (x2 j)):
  Calls Tryz.prog 190 #[.slice (some ⟨b,0,none⟩) n c,.func (.func g) #[] lb] w fun e w'=>e=.returned (.bool ((List.range n).any p))∧Below w.heap.size w w':=by
 go_in;go_wp2_with fail
 refine(En g lb eg b n c x0 x1 x2 p w hp hn hb h0 h1 h2).mono ?_
 rintro e w1 ⟨r,hr,rfl,B1⟩;go_wp2_with fail
 go_ret
 exact⟨by rw[←jz hr];rfl,B1⟩
theorem Ce (g:Nat)(lb:Array Value)(c:Nat)(w:World):
  Calls Tryz.prog 190 #[.slice none 0 c,.func (.func g) #[] lb] w fun e w'=>e=.returned (.bool false)∧w'=w:=by
 go_in;go_wp2_with fail
 refine(Cc g lb c w).mono ?_
 rintro e w1 ⟨rfl,hw⟩;obtain rfl:=hw.symm;go_wp2_with fail
 go_ret
 exact⟨rfl,rfl⟩
theorem Ep (g:Nat)(lb:Array Value)(eg:∀args w,(callFunc g args).run Tryz.prog w=.ok (.enter g args) w)(b n c:Nat)(x0 x1:Nat→Value)(p:Nat→Bool)(w:World)
  (hp:jb g lb n (fun j=>.agg #[x0 j,x1 j]) p w)(hn:n≤9223372036854775807)(hb:b<w.heap.size)
  (h0:∀j,j<n→w.cell? ⟨b,j*2,none⟩=some (x0 j))(h1:∀j,j<n→w.cell? ⟨b,j*2+1,none⟩=some (x1 j)):
  Calls Tryz.prog 224 #[.slice (some ⟨b,0,none⟩) n c,.func (.func g) #[] lb] w fun e w'=>∃r,nK n p r∧e=.returned (.int .i64 r)∧Below w.heap.size w w':=by
 go_in;go_wp2;go_loopg [5,8] n (fun gg _ s8 wr=>∃kk:Nat,kk≤n∧n-kk≤gg∧s8=.int .i64 kk∧Aside (Below w.heap.size w wr)∧Aside (∀j,j<kk→p j=false))
 case atStart=>exact ⟨0,Nat.zero_le _,by omega,rfl,Below.refl _ w,fun j hj=>absurd hj (Nat.not_lt_zero _)⟩
 case round=>
  obtain⟨kk,hkk,hg,rfl,BW,A⟩:=hrel
  by_cases hlt:kk<n
  ·have hltz:(kk:Int)<(n:Int):=(by omega);have l0:=(BW.out.cell (p:=⟨b,kk*2,none⟩) hb).trans (h0 kk hlt);have l1:=(BW.out.cell (p:=⟨b,kk*2+1,none⟩) hb).trans (h1 kk hlt);have hcall:=hp wr kk hlt BW.out;dsimp only at hcall;clear hp h0 h1;generalize x0 kk=y0 at l0 hcall;generalize x1 kk=y1 at l1 hcall
   cases hq:p kk with
   |true=>
    rw[hq]at hcall;go_wp2_with(go_at_fn g;refine hcall.mono ?_;rintro e w' ⟨rfl,hb'⟩)
    go_ret
    exact⟨_,Or.inr ⟨kk,hlt,hq,rfl⟩,rfl,hb'⟩
   |false=>
    rw[hq]at hcall;go_wp2_with(go_at_fn g;refine hcall.mono ?_;rintro e w' ⟨rfl,hb'⟩)
    go_roundg (n-(kk+1))
    case measure=>omega
    case rel=>
     refine⟨kk+1,by omega,by omega,by go_num,hb',(show Aside _ from fun j hj=> ?_)⟩
     by_cases e:j=kk
     ·subst e;exact hq
     ·exact A.out j (by omega)
  ·have hltz:¬(kk:Int)<(n:Int):=by omega
   have:kk=n:=by omega
   subst this;go_wp2;go_ret
   exact⟨_,Or.inl ⟨rfl,A.out⟩,rfl,BW.out⟩
theorem Cf (g:Nat)(lb:Array Value)(c:Nat)(w:World):
  Calls Tryz.prog 224 #[.slice none 0 c,.func (.func g) #[] lb] w fun e w'=>e=.returned (.int .i64 (-1))∧w'=w:=by
 go_in;go_wp2;go_loopg [5,8] 0 (fun _ _ s8 wr=>s8=.int .i64 0∧wr=w)
 case atStart=>exact ⟨rfl,rfl⟩
 case round=>
  obtain⟨rfl,rfl⟩:=hrel
  go_wp2;go_ret
  exact⟨rfl,rfl⟩
theorem Er (g:Nat)(lb:Array Value)(eg:∀args w,(callFunc g args).run Tryz.prog w=.ok (.enter g args) w)(b n c:Nat)(x0 x1:Nat→Value)(p:Nat→Bool)(w:World)
  (hp:jb g lb n (fun j=>.agg #[x0 j,x1 j]) p w)(hn:n≤9223372036854775807)(hb:b<w.heap.size)
  (h0:∀j,j<n→w.cell? ⟨b,j*2,none⟩=some (x0 j))(h1:∀j,j<n→w.cell? ⟨b,j*2+1,none⟩=some (x1 j)):
  Calls Tryz.prog 212 #[.slice (some ⟨b,0,none⟩) n c,.func (.func g) #[] lb] w fun e w'=>e=.returned (.bool ((List.range n).any p))∧Below w.heap.size w w':=by
 go_in;go_wp2_with fail
 refine(Ep g lb eg b n c x0 x1 p w hp hn hb h0 h1).mono ?_
 rintro e w1 ⟨r,hr,rfl,B1⟩;go_wp2_with fail
 go_ret
 exact⟨by rw[←jz hr];rfl,B1⟩
theorem Cg (g:Nat)(lb:Array Value)(c:Nat)(w:World):
  Calls Tryz.prog 212 #[.slice none 0 c,.func (.func g) #[] lb] w fun e w'=>e=.returned (.bool false)∧w'=w:=by
 go_in;go_wp2_with fail
 refine(Cf g lb c w).mono ?_
 rintro e w1 ⟨rfl,hw⟩;obtain rfl:=hw.symm;go_wp2_with fail
 go_ret
 exact⟨rfl,rfl⟩
theorem Ch (g:Nat)(lb:Array Value)(eg:∀args w,(callFunc g args).run Tryz.prog w=.ok (.enter g args) w)(b n c:Nat)(x0:Nat→Value)(p:Nat→Bool)(w:World)
  (hp:jb g lb n (fun j=>x0 j) p w)(hn:n≤9223372036854775807)(hb:b<w.heap.size)
  (h0:∀j,j<n→w.cell? ⟨b,j,none⟩=some (x0 j)):
  Calls Tryz.prog 196 #[.slice (some ⟨b,0,none⟩) n c,.func (.func g) #[] lb] w fun e w'=>∃r,nK n p r∧e=.returned (.int .i64 r)∧Below w.heap.size w w':=by
 go_in;go_wp2;go_loopg [5,8] n (fun gg _ s8 wr=>∃kk:Nat,kk≤n∧n-kk≤gg∧s8=.int .i64 kk∧Aside (Below w.heap.size w wr)∧Aside (∀j,j<kk→p j=false))
 case atStart=>exact ⟨0,Nat.zero_le _,by omega,rfl,Below.refl _ w,fun j hj=>absurd hj (Nat.not_lt_zero _)⟩
 case round=>
  obtain⟨kk,hkk,hg,rfl,BW,A⟩:=hrel
  by_cases hlt:kk<n
  ·have hltz:(kk:Int)<(n:Int):=(by omega);have l0:=(BW.out.cell (p:=⟨b,kk,none⟩) hb).trans (h0 kk hlt);have hcall:=hp wr kk hlt BW.out;dsimp only at hcall;clear hp h0;generalize x0 kk=y0 at l0 hcall
   cases hq:p kk with
   |true=>
    rw[hq]at hcall;go_wp2_with(go_at_fn g;refine hcall.mono ?_;rintro e w' ⟨rfl,hb'⟩)
    go_ret
    exact⟨_,Or.inr ⟨kk,hlt,hq,rfl⟩,rfl,hb'⟩
   |false=>
    rw[hq]at hcall;go_wp2_with(go_at_fn g;refine hcall.mono ?_;rintro e w' ⟨rfl,hb'⟩)
    go_roundg (n-(kk+1))
    case measure=>omega
    case rel=>
     refine⟨kk+1,by omega,by omega,by go_num,hb',(show Aside _ from fun j hj=> ?_)⟩
     by_cases e:j=kk
     ·subst e;exact hq
     ·exact A.out j (by omega)
  ·have hltz:¬(kk:Int)<(n:Int):=by omega
   have:kk=n:=by omega
   subst this;go_wp2;go_ret
   exact⟨_,Or.inl ⟨rfl,A.out⟩,rfl,BW.out⟩
theorem yN (g:Nat)(lb:Array Value)(c:Nat)(w:World):
  Calls Tryz.prog 196 #[.slice none 0 c,.func (.func g) #[] lb] w fun e w'=>e=.returned (.int .i64 (-1))∧w'=w:=by
 go_in;go_wp2;go_loopg [5,8] 0 (fun _ _ s8 wr=>s8=.int .i64 0∧wr=w)
 case atStart=>exact ⟨rfl,rfl⟩
 case round=>
  obtain⟨rfl,rfl⟩:=hrel
  go_wp2;go_ret
  exact⟨rfl,rfl⟩
theorem Ci (g:Nat)(lb:Array Value)(eg:∀args w,(callFunc g args).run Tryz.prog w=.ok (.enter g args) w)(b n c:Nat)(x0:Nat→Value)(p:Nat→Bool)(w:World)
  (hp:jb g lb n (fun j=>x0 j) p w)(hn:n≤9223372036854775807)(hb:b<w.heap.size)
  (h0:∀j,j<n→w.cell? ⟨b,j,none⟩=some (x0 j)):
  Calls Tryz.prog 176 #[.slice (some ⟨b,0,none⟩) n c,.func (.func g) #[] lb] w fun e w'=>e=.returned (.bool ((List.range n).any p))∧Below w.heap.size w w':=by
 go_in;go_wp2_with fail
 refine(Ch g lb eg b n c x0 p w hp hn hb h0).mono ?_
 rintro e w1 ⟨r,hr,rfl,B1⟩;go_wp2_with fail
 go_ret
 exact⟨by rw[←jz hr];rfl,B1⟩
theorem yO (g:Nat)(lb:Array Value)(c:Nat)(w:World):
  Calls Tryz.prog 176 #[.slice none 0 c,.func (.func g) #[] lb] w fun e w'=>e=.returned (.bool false)∧w'=w:=by
 go_in;go_wp2_with fail
 refine(yN g lb c w).mono ?_
 rintro e w1 ⟨rfl,hw⟩;obtain rfl:=hw.symm;go_wp2_with fail
 go_ret
 exact⟨rfl,rfl⟩
theorem Cj (g:Nat)(lb:Array Value)(eg:∀args w,(callFunc g args).run Tryz.prog w=.ok (.enter g args) w)(b n c:Nat)(x0:Nat→Value)(p:Nat→Bool)(w:World)
  (hp:jb g lb n (fun j=>x0 j) p w)(hn:n≤9223372036854775807)(hb:b<w.heap.size)
  (h0:∀j,j<n→w.cell? ⟨b,j,none⟩=some (x0 j)):
  Calls Tryz.prog 119 #[.slice (some ⟨b,0,none⟩) n c,.func (.func g) #[] lb] w fun e w'=>∃r,nK n p r∧e=.returned (.int .i64 r)∧Below w.heap.size w w':=by
 go_in;go_wp2;go_loopg [5,8] n (fun gg _ s8 wr=>∃kk:Nat,kk≤n∧n-kk≤gg∧s8=.int .i64 kk∧Aside (Below w.heap.size w wr)∧Aside (∀j,j<kk→p j=false))
 case atStart=>exact ⟨0,Nat.zero_le _,by omega,rfl,Below.refl _ w,fun j hj=>absurd hj (Nat.not_lt_zero _)⟩
 case round=>
  obtain⟨kk,hkk,hg,rfl,BW,A⟩:=hrel
  by_cases hlt:kk<n
  ·have hltz:(kk:Int)<(n:Int):=(by omega);have l0:=(BW.out.cell (p:=⟨b,kk,none⟩) hb).trans (h0 kk hlt);have hcall:=hp wr kk hlt BW.out;dsimp only at hcall;clear hp h0;generalize x0 kk=y0 at l0 hcall
   cases hq:p kk with
   |true=>
    rw[hq]at hcall;go_wp2_with(go_at_fn g;refine hcall.mono ?_;rintro e w' ⟨rfl,hb'⟩)
    go_ret
    exact⟨_,Or.inr ⟨kk,hlt,hq,rfl⟩,rfl,hb'⟩
   |false=>
    rw[hq]at hcall;go_wp2_with(go_at_fn g;refine hcall.mono ?_;rintro e w' ⟨rfl,hb'⟩)
    go_roundg (n-(kk+1))
    case measure=>omega
    case rel=>
     refine⟨kk+1,by omega,by omega,by go_num,hb',(show Aside _ from fun j hj=> ?_)⟩
     by_cases e:j=kk
     ·subst e;exact hq
     ·exact A.out j (by omega)
  ·have hltz:¬(kk:Int)<(n:Int):=by omega
   have:kk=n:=by omega
   subst this;go_wp2;go_ret
   exact⟨_,Or.inl ⟨rfl,A.out⟩,rfl,BW.out⟩
theorem yP (g:Nat)(lb:Array Value)(c:Nat)(w:World):
  Calls Tryz.prog 119 #[.slice none 0 c,.func (.func g) #[] lb] w fun e w'=>e=.returned (.int .i64 (-1))∧w'=w:=by
 go_in;go_wp2;go_loopg [5,8] 0 (fun _ _ s8 wr=>s8=.int .i64 0∧wr=w)
 case atStart=>exact ⟨rfl,rfl⟩
 case round=>
  obtain⟨rfl,rfl⟩:=hrel
  go_wp2;go_ret
  exact⟨rfl,rfl⟩
theorem Ck (g:Nat)(lb:Array Value)(eg:∀args w,(callFunc g args).run Tryz.prog w=.ok (.enter g args) w)(b n c:Nat)(x0:Nat→Value)(p:Nat→Bool)(w:World)
  (hp:jb g lb n (fun j=>x0 j) p w)(hn:n≤9223372036854775807)(hb:b<w.heap.size)
  (h0:∀j,j<n→w.cell? ⟨b,j,none⟩=some (x0 j)):
  Calls Tryz.prog 75 #[.slice (some ⟨b,0,none⟩) n c,.func (.func g) #[] lb] w fun e w'=>e=.returned (.bool ((List.range n).any p))∧Below w.heap.size w w':=by
 go_in;go_wp2_with fail
 refine(Cj g lb eg b n c x0 p w hp hn hb h0).mono ?_
 rintro e w1 ⟨r,hr,rfl,B1⟩;go_wp2_with fail
 go_ret
 exact⟨by rw[←jz hr];rfl,B1⟩
theorem yQ (g:Nat)(lb:Array Value)(c:Nat)(w:World):
  Calls Tryz.prog 75 #[.slice none 0 c,.func (.func g) #[] lb] w fun e w'=>e=.returned (.bool false)∧w'=w:=by
 go_in;go_wp2_with fail
 refine(yP g lb c w).mono ?_
 rintro e w1 ⟨rfl,hw⟩;obtain rfl:=hw.symm;go_wp2_with fail
 go_ret
 exact⟨rfl,rfl⟩
theorem Ax:∀a b:List (Bool×ByteArray),gQ (a++b)=gQ a++gQ b
 |[],_=>rfl
 |x::a,b=>by show cI x.1 x.2++gQ (a++b)=(cI x.1 x.2++gQ a)++gQ b;rw[Ax a b];simp
theorem uz:∀l:List (Bool×ByteArray),iL (gQ l)
 |[]=>fun x hx=>by simp[gQ]at hx
 |x::l=>by
  have hl:iL (cI x.1 x.2):=by
   have hd:∀(y:Int),0≤y→y≤255→0≤oB (y/16)∧oB (y/16)≤255∧0≤oB (y%16)∧oB (y%16)≤255:=by
    intro y h0 h1;have k:∀z:Int,0≤z→z≤15→0≤oB z∧oB z≤255:=by
     intro z z0 z1
     obtain⟨k,rfl⟩:∃k:Nat,z=k:=⟨z.toNat,by omega⟩
     have hk:k<16:=(by omega);match k,hk with
     |0,_|1,_|2,_|3,_|4,_|5,_|6,_|7,_|8,_|9,_|10,_|11,_|12,_|13,_|14,_|15,_=>decide
     |k+16,h=>omega
    have a:=k (y/16) (by omega) (by omega);have b:=k (y%16) (by omega) (by omega)
    exact⟨a.1,a.2,b.1,b.2⟩
   have hh:∀t:List Int,iL t→iL (ei t):=by
    intro t;induction t with
    |nil=>intro _ y hy;simp[ei]at hy
    |cons a t ih=>
     intro ht y hy;have ha:=ht a (by simp)
     obtain⟨q1,q2,q3,q4⟩:=hd a ha.1 ha.2
     simp only[ei,List.mem_cons]at hy;rcases hy with rfl|rfl|hy
     ·exact⟨q1,q2⟩
     ·exact⟨q3,q4⟩
     ·exact ih (fun z hz=>ht z (by simp[hz])) y hy
   intro y hy;unfold cI at hy;simp only[List.cons_append,List.mem_cons,List.mem_append,List.not_mem_nil,or_false]at hy;rcases hy with rfl|rfl|hy|rfl
   ·split<;>omega
   ·omega
   ·exact hh _ (bt _) y hy
   ·omega
  intro y hy;have hy':=hy;rcases List.mem_append.1 hy' with hy'|hy'
  ·exact hl y hy'
  ·exact uz l y hy'
theorem qX:∀(n:Nat) (l:List Nat),l.Nodup→(∀x∈l,x<n)→l.length≤n
 |0,l,_,h=>by
  cases l with
  |nil=>simp
  |cons a l=>have:=h a (by simp);omega
 |n+1,l,hn,h=>by
  have h1:=qX n (l.erase n) (hn.erase n) (fun x hx=>by
   have hx':=(hn.mem_erase_iff).1 hx
   have:=h x hx'.2
   have:=hx'.1
   omega)
  have h2:l.length≤(l.erase n).length+1:=by rw[List.length_erase];split<;>omega
  omega
structure Ls (R:ByteArray→Sh):Prop where
 fault:∀s:ByteArray,s.size≤24→0≤(R s).fault∧(R s).fault<300
 place:∀s:ByteArray,s.size≤24→0≤(R s).place∧(R s).place<400
def Ex (c:Cr):Nat:=c.fault.toNat*400+c.place.toNat
theorem nL {R:ByteArray→Sh}{h:HS}(p:cE R h)(q:Ls R):h.found.length≤120000:=by
 have key:∀c∈h.found,0≤c.fault∧c.fault<300∧0≤c.place∧c.place<400:=by
  intro c hc
  obtain⟨i,hi⟩:=List.getElem?_of_mem hc
  obtain⟨h1,_,h3,h4,_⟩:=p.found i c hi
  have f:=q.fault c.text h1;have g:=q.place c.text h1;rw[h3]at f;rw[h4]at g
  exact⟨f.1,f.2,g.1,g.2⟩
 have hn:(h.found.map Ex).Nodup:=by
  rw[List.Nodup,List.pairwise_map,List.pairwise_iff_getElem];intro i j hi hj hij e
  obtain⟨_,_,_,_,hany⟩:=p.found j _ (List.getElem?_eq_getElem hj)
  rw[List.any_eq_false]at hany;have hm:h.found[i]∈h.found.take j:=List.mem_take_iff_getElem.2 ⟨i,by omega,rfl⟩;have hx:=hany _ hm;apply hx;have k1:=key _ (List.getElem_mem hi);have k2:=key _ (List.getElem_mem hj);unfold Ex at e;unfold dV;rw[decide_eq_true (by omega),decide_eq_true (by omega)];rfl
 have:=qX 120000 _ hn (fun x hx=>by
  obtain⟨c,hc,rfl⟩:=List.mem_map.1 hx
  have:=key c hc
  unfold Ex
  omega)
 rwa[List.length_map]at this
theorem wN:∀l:List (Bool×ByteArray),l.length=(l.filterMap nE).length+(l.filterMap nu).length
 |[]=>rfl
 |(b,s)::l=>by
  have ih:=wN l;rw[List.filterMap_cons,List.filterMap_cons]
  cases b with
  |true=>simp [nE,nu];omega
  |false=>simp [nE,nu];omega
theorem jB {R:ByteArray→Sh}{h:HS}(p:cE R h)(q:Ls R):h.az.length≤120030:=by
 have h1:=wN h.az;rw[p.wz,p.wA,List.length_map,List.length_map]at h1
 have:=nL p q
 have:=p.most
 omega
theorem lD {R:ByteArray→Sh}:∀(l:List (Bool×ByteArray)) (h h':HS),gJ R h l=some h'→h'.tries=h.tries+l.length
 |[],_,_,e=>by cases e;rfl
 |x::l,h,h',e=>by
  unfold gJ at e;split at e
  ·have ih:=lD l _ _ e;have ht:(aD R h x.2).1.tries=h.tries+1:=by
    unfold aD;repeat' split
    all_goals rfl
   rw[ih,ht,List.length_cons];omega
  ·cases e
theorem ew (R:ByteArray→Sh)(k:Nat)(h:HS)(y:List Int)(l:List (List Int)):aZ R k h (y::l)=match dJ y with
  |none=>(h,some k)
  |some x=>if (aD R h x.2).2=letter x.1 then aZ R (k+1) (aD R h x.2).1 l else((aD R h x.2).1,some k):=rfl
theorem kI (R:ByteArray→Sh):∀(a b:List (List Int)) (k:Nat) (h h1:HS),aZ R k h a=(h1,none)→aZ R k h (a++b)=aZ R (k+a.length) h1 b
 |[],_,_,_,_,e=>by
  injection e with e _;subst e;rfl
 |y::a,b,k,h,h1,e=>by
  rw[List.cons_append,ew];rw[ew]at e
  cases hx:dJ y with
  |none=>rw [hx]at e;cases e
  |some x=>
   rw[hx]at e;dsimp only at e⊢;split at e
   ·rename_i hl
    rw[if_pos hl,kI R a b (k+1) _ h1 e,List.length_cons];congr 1
    omega
   ·cases e
theorem ri (R:ByteArray→Sh)(s:ByteArray):∀(l:List ByteArray) (h:HS),bX R h (l++[s])=(aD R (bX R h l) s).1
 |[],_=>rfl
 |t::l,h=>ri R s l (aD R h t).1
theorem rj (R:ByteArray→Sh)(h:HS)(l:List ByteArray)(k:Nat)(hk:k<l.length):bX R h (l.take (k+1))=(aD R (bX R h (l.take k)) (l.getD k ⟨#[]⟩)).1:=by
 rw[List.take_succ_eq_append_getElem hk,ri,List.getD_eq_getElem?_getD,List.getElem?_eq_getElem hk,Option.getD_some]
structure kJ (h:HS):Prop where
 hangs:h.hangs≤h.tries
 kept:h.kept.length≤h.tries
 found:h.found.length≤h.tries
 az:h.az.length≤h.tries
theorem kJ.tried {R:ByteArray→Sh}{h:HS}(p:kJ h)(s:ByteArray):kJ (aD R h s).1:=by
 obtain⟨_,_,_,_,e5,e6⟩:=j9 R h s
 obtain⟨h1,h2,h3,h4⟩:=p
 rcases gR R h s with⟨a,_⟩|⟨_,_,a3,a4,a5,_⟩|⟨_,_,_,_,a5,a6,a7,_⟩
 ·refine⟨by omega,by rw[a.kept];omega,by rw[a.found];omega,by rw[a.az];omega⟩
 ·refine⟨by omega,by rw[a3];omega,by rw[a4,List.length_append,List.length_singleton];omega,by rw[a5,List.length_append,List.length_singleton];omega⟩
 ·refine⟨by omega,by rw[a5,List.length_append,List.length_singleton];omega,by rw[a6];omega,by rw[a7,List.length_append,List.length_singleton];omega⟩
theorem tC (aa:Int):kJ (HS.zero aa):=⟨Nat.le_refl _,Nat.le_refl _,Nat.le_refl _,Nat.le_refl _⟩
theorem kJ.tries {R:ByteArray→Sh}:∀(l:List ByteArray) (h:HS),kJ h→kJ (bX R h l)∧(bX R h l).tries=h.tries+l.length
 |[],_,p=>⟨p,rfl⟩
 |s::l,h,p=>by
  obtain⟨h1,h2⟩:=kJ.tries l _ (p.tried (R:=R) s)
  refine⟨h1,h2.trans ?_⟩
  rw[(j9 R h s).2.2.2.2.1,List.length_cons];omega
theorem tD (R:ByteArray→Sh)(h:HS):(h.one R).tries=h.tries+1:=by
 have:=(j9 R {h with aa:=h.aG} h.aK).2.2.2.2.1
 unfold HS.one;dsimp only;split
 ·exact this
 ·exact this
theorem kJ.one {R:ByteArray→Sh}{h:HS}(p:kJ h):kJ (h.one R):=by
 have q:kJ (aD R {h with aa:=h.aG} h.aK).1:=kJ.tried (h:={h with aa:=h.aG}) ⟨p.hangs,p.kept,p.found,p.az⟩ _;unfold HS.one;dsimp only;split
 ·exact⟨q.hangs,q.kept,q.found,q.az⟩
 ·exact⟨q.hangs,q.kept,q.found,q.az⟩
theorem kJ.go {R:ByteArray→Sh}{h:HS}(p:kJ h):∀n,kJ (h.go R n)∧(h.go R n).tries=h.tries+n
 |0=>⟨p,rfl⟩
 |n+1=>by
  obtain⟨h1,h2⟩:=kJ.go p n
  refine⟨h1.one,?_⟩
  show(HS.one R (h.go R n)).tries=_
  rw[tD,h2];omega
end Go.Proofs.YtmpgjkhchfcjlaaGreatDoor
