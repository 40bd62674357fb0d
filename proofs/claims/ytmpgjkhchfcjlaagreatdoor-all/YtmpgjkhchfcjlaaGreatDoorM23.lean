import Derived.Test.YtmpgjkhchfcjlaaGreatDoorM20
namespace Go.Proofs.YtmpgjkhchfcjlaaGreatDoor
open Go.RowKit
set_option maxHeartbeats 2000000
theorem HU.KE {w w1:World}{U:Nat→Prop}{d:HD}{g:PG}{h:HS}(p:HU w U d g h)(t:ByteArray)(aV:Nat→Int)(cg:Nat)(hcg:∀p,p<64→w.cell? ⟨cg,p,none⟩=some (.int .u8 (aV p)))(hcu:U cg)(hcw:¬d.Wr cg)(v':Value)(hg:w.grownBy w1 d.vk.ownBlock)
  (ho:w1.ownsRow 0 147 2 v' (h.kept.length+1) (d.xk++[.string t,.slice (some ⟨cg,0,none⟩) 64 64]))(hat:v'.ownBlock=d.vk.ownBlock∨v'.ownBlock=some w.heap.size):
  HU (w1.setCell ⟨d.H,7,none⟩ v') (Gr U w w1) {d with vk:=v',xk:=d.xk++[.string t,.slice (some ⟨cg,0,none⟩) 64 64]} g {h with kept:=h.kept++[⟨t,aV⟩]}:=by
 have hHl:d.H<w.heap.size:=p.lt _ (p.dR _ (Or.inl rfl));have hHn:some d.H≠d.vk.ownBlock:=fun c=>(p.nk _ c.symm).1 rfl
 have hnew:∀k,v'.ownBlock=some k→d.vk.ownBlock=some k∨k=w.heap.size:=fun k e=>by
  rcases hat with a|a
  ·exact Or.inl (a▸e)
  ·rw[a]at e;injection e with e;exact Or.inr e.symm
 have hvH:∀k,v'.ownBlock=some k→k≠d.H:=fun k e=>by
  rcases hnew k e with e|e
  ·exact(p.nk k e).1
  ·omega
 have hblk:∀k,k<w.heap.size→k≠d.H→d.vk.ownBlock≠some k→(w1.setCell ⟨d.H,7,none⟩ v').heap[k]?=w.heap[k]?:=fun k hk h1 h2=>
  (heap_setCell_other w1 ⟨d.H,7,none⟩ k v' h1).trans (hg.block k hk (fun c=>h2 c.symm))
 have hWr:∀k,k<w.heap.size→¬d.Wr k→¬HD.Wr {d with vk:=v',xk:=d.xk++[.string t,.slice (some ⟨cg,0,none⟩) 64 64]} k:=fun k hk hn c=>by
  unfold HD.Wr at hn c;dsimp only at c;rcases c with c|c|c|c
  ·exact hn (Or.inl c)
  ·rcases hnew k c with c|c
   ·exact hn (Or.inr (Or.inl c))
   ·omega
  ·exact hn (Or.inr (Or.inr (Or.inl c)))
  ·exact hn (Or.inr (Or.inr (Or.inr c)))
 have hlt2:=hg.size
 exact{
  cell:=by
   intro j hj;have hc:∀j,j<40→w1.cell? ⟨d.H,j,none⟩=some (hval d g h j):=fun j hj=>hg.cell (a:=⟨d.H,j,none⟩) (p.cell j hj) hHn
   by_cases e:j=7
   ·subst e;exact World.cell?_setCell_same _ _ _ (hc 7 hj)
   ·rw[World.cell?_setCell_other _ _ _ _ (fun c=>e (by injection c with _ c2 _;exact c2.symm)),hc j hj];unfold hval;simp only[if_neg e]
  thaw:=fun j=>by rw[World.frozen?_setCell,World.frozen?_of_block (w:=w) (a:=⟨d.H,j,none⟩) (hg.block d.H hHl hHn)];exact p.thaw j
  rk:=by
   have:=ay ho (w':=w1.setCell ⟨d.H,7,none⟩ v') (fun b e=>heap_setCell_other w1 ⟨d.H,7,none⟩ b v' (hvH b e))
   simpa using this
  rf:=ay p.rf (fun b e=>hblk b (aL p.rf e) (p.nf b e).1 (fun c=>(p.nk b c).2.1 e))
  rc:=ay p.rc (fun b e=>hblk b (aL p.rc e) (p.nc b e) (fun c=>(p.nk b c).2.2 e))
  nk:=fun b e=>by
   rcases hnew b e with e'|e'
   ·exact⟨hvH b e,(p.nk b e').2⟩
   ·exact⟨hvH b e,fun c=>by have:=aL p.rf c;omega,fun c=>by have:=aL p.rc c;omega⟩
  nf:=p.nf
  nc:=p.nc
  code:=p.code.of_block (hblk _ (p.lt _ p.kW) (fun c=>p.dX (Or.inl c)) (fun c=>p.dX (Or.inr (Or.inl c))))
  dX:=hWr _ (p.lt _ p.kW) p.dX
  kept:=by
   have hlx:=p.rk.1;intro i k hk;rcases gA hk with⟨hi,hk⟩|⟨rfl,rfl⟩
   ·obtain⟨h1,b,h2,h3,h4,h5⟩:=p.kept i k hk
    refine⟨?_,b,?_,fun q hq=> ?_,hWr b (p.lt b h5) h4,Or.inl h5⟩
    ·show(d.xk++_)[2*i]?=_
     rw[List.getElem?_append_left (by omega)];exact h1
    ·show(d.xk++_)[2*i+1]?=_
     rw[List.getElem?_append_left (by omega)];exact h2
    ·exact(World.cell?_of_block (w:=w) (a:=⟨b,q,none⟩) (hblk b (p.lt b h5) (fun c=>h4 (Or.inl c)) (fun c=>h4 (Or.inr (Or.inl c))))).trans (h3 q hq)
   ·refine⟨?_,cg,?_,fun q hq=> ?_,hWr cg (p.lt cg hcu) hcw,Or.inl hcu⟩
    ·show(d.xk++_)[2*h.kept.length]?=_
     rw[List.getElem?_append_right (by omega),hlx];simp[show 2*h.kept.length-h.kept.length*2=0 by omega]
    ·show(d.xk++_)[2*h.kept.length+1]?=_
     rw[List.getElem?_append_right (by omega),hlx];simp[show 2*h.kept.length+1-h.kept.length*2=1 by omega]
    ·exact(World.cell?_of_block (w:=w) (a:=⟨cg,q,none⟩) (hblk cg (p.lt cg hcu) (fun c=>hcw (Or.inl c)) (fun c=>hcw (Or.inr (Or.inl c))))).trans (hcg q hq)
  dR:=fun k hk=>by
   unfold HD.Wr at hk;dsimp only at hk;rcases hk with c|c|c|c
   ·exact Or.inl (p.dR k (Or.inl c))
   ·rcases hnew k c with e|e
    ·exact Or.inl (p.dR k (Or.inr (Or.inl e)))
    ·exact Or.inr ⟨by omega,aL ho c⟩
   ·exact Or.inl (p.dR k (Or.inr (Or.inr (Or.inl c))))
   ·exact Or.inl (p.dR k (Or.inr (Or.inr (Or.inr c))))
  kW:=Or.inl p.kW
  lt:=fun k hk=>by
   rw[World.size_setCell];rcases hk with c|c
   ·have:=p.lt k c;omega
   ·exact c.2
  low:=fun k hk=>by
   rcases hk with c|c
   ·exact p.low k c
   ·have:=p.two;omega}
theorem HU.KF {w w1:World}{U:Nat→Prop}{d:HD}{g:PG}{h:HS}(p:HU w U d g h)(t:ByteArray)(f q:Int)(v':Value)(hg:w.grownBy w1 d.vf.ownBlock)
  (ho:w1.ownsRow 0 67 3 v' (h.found.length+1) (bH h.found++[.string t,.int .i64 f,.int .i64 q]))(hat:v'.ownBlock=d.vf.ownBlock∨v'.ownBlock=some w.heap.size):
  HU (w1.setCell ⟨d.H,8,none⟩ v') (Gr U w w1) {d with vf:=v'} g {h with found:=h.found++[⟨t,f,q⟩]}:=by
 have hHl:d.H<w.heap.size:=p.lt _ (p.dR _ (Or.inl rfl));have hHn:some d.H≠d.vf.ownBlock:=fun c=>(p.nf _ c.symm).1 rfl
 have hnew:∀k,v'.ownBlock=some k→d.vf.ownBlock=some k∨k=w.heap.size:=fun k e=>by
  rcases hat with a|a
  ·exact Or.inl (a▸e)
  ·rw[a]at e;injection e with e;exact Or.inr e.symm
 have hvH:∀k,v'.ownBlock=some k→k≠d.H:=fun k e=>by
  rcases hnew k e with e|e
  ·exact(p.nf k e).1
  ·omega
 have hblk:∀k,k<w.heap.size→k≠d.H→d.vf.ownBlock≠some k→(w1.setCell ⟨d.H,8,none⟩ v').heap[k]?=w.heap[k]?:=fun k hk h1 h2=>
  (heap_setCell_other w1 ⟨d.H,8,none⟩ k v' h1).trans (hg.block k hk (fun c=>h2 c.symm))
 have hWr:∀k,k<w.heap.size→¬d.Wr k→¬HD.Wr {d with vf:=v'} k:=fun k hk hn c=>by
  unfold HD.Wr at hn c;dsimp only at c;rcases c with c|c|c|c
  ·exact hn (Or.inl c)
  ·exact hn (Or.inr (Or.inl c))
  ·rcases hnew k c with c|c
   ·exact hn (Or.inr (Or.inr (Or.inl c)))
   ·omega
  ·exact hn (Or.inr (Or.inr (Or.inr c)))
 have hlt2:=hg.size
 exact{
  cell:=by
   intro j hj;have hc:∀j,j<40→w1.cell? ⟨d.H,j,none⟩=some (hval d g h j):=fun j hj=>hg.cell (a:=⟨d.H,j,none⟩) (p.cell j hj) hHn
   by_cases e:j=8
   ·subst e;exact World.cell?_setCell_same _ _ _ (hc 8 hj)
   ·rw[World.cell?_setCell_other _ _ _ _ (fun c=>e (by injection c with _ c2 _;exact c2.symm)),hc j hj];unfold hval;simp only[if_neg e]
  thaw:=fun j=>by rw[World.frozen?_setCell,World.frozen?_of_block (w:=w) (a:=⟨d.H,j,none⟩) (hg.block d.H hHl hHn)];exact p.thaw j
  rk:=ay p.rk (fun b e=>hblk b (aL p.rk e) (p.nk b e).1 (p.nk b e).2.1)
  rf:=by
   have:=ay ho (w':=w1.setCell ⟨d.H,8,none⟩ v') (fun b e=>heap_setCell_other w1 ⟨d.H,8,none⟩ b v' (hvH b e))
   simpa[bH]using this
  rc:=ay p.rc (fun b e=>hblk b (aL p.rc e) (p.nc b e) (fun c=>(p.nf b c).2 e))
  nk:=fun b e=>by
   refine⟨(p.nk b e).1,fun c=> ?_,(p.nk b e).2.2⟩
   rcases hnew b c with c|c
   ·exact(p.nk b e).2.1 c
   ·have:=aL p.rk e;omega
  nf:=fun b e=>by
   rcases hnew b e with e'|e'
   ·exact⟨hvH b e,(p.nf b e').2⟩
   ·exact⟨hvH b e,fun c=>by have:=aL p.rc c;omega⟩
  nc:=p.nc
  code:=p.code.of_block (hblk _ (p.lt _ p.kW) (fun c=>p.dX (Or.inl c)) (fun c=>p.dX (Or.inr (Or.inr (Or.inl c)))))
  dX:=hWr _ (p.lt _ p.kW) p.dX
  kept:=by
   intro i k hk
   obtain⟨h1,b,h2,h3,h4,h5⟩:=p.kept i k hk
   exact⟨h1,b,h2,fun q hq=>(World.cell?_of_block (w:=w) (a:=⟨b,q,none⟩) (hblk b (p.lt b h5) (fun c=>h4 (Or.inl c)) (fun c=>h4 (Or.inr (Or.inr (Or.inl c)))))).trans (h3 q hq),hWr b (p.lt b h5) h4,Or.inl h5⟩
  dR:=fun k hk=>by
   unfold HD.Wr at hk;dsimp only at hk;rcases hk with c|c|c|c
   ·exact Or.inl (p.dR k (Or.inl c))
   ·exact Or.inl (p.dR k (Or.inr (Or.inl c)))
   ·rcases hnew k c with e|e
    ·exact Or.inl (p.dR k (Or.inr (Or.inr (Or.inl e))))
    ·exact Or.inr ⟨by omega,aL ho c⟩
   ·exact Or.inl (p.dR k (Or.inr (Or.inr (Or.inr c))))
  kW:=Or.inl p.kW
  lt:=fun k hk=>by
   rw[World.size_setCell];rcases hk with c|c
   ·have:=p.lt k c;omega
   ·exact c.2
  low:=fun k hk=>by
   rcases hk with c|c
   ·exact p.low k c
   ·have:=p.two;omega}
theorem HU.KG {w w1:World}{U:Nat→Prop}{d:HD}{g:PG}{h:HS}(p:HU w U d g h)(b:Bool)(t:ByteArray)(v':Value)(hg:w.grownBy w1 d.vc.ownBlock)
  (ho:w1.ownsRow 0 5 1 v' (h.az.length+1) (oH h.az++[.int .u8 (letter b)]))(hat:v'.ownBlock=d.vc.ownBlock∨v'.ownBlock=some w.heap.size):
  HU (w1.setCell ⟨d.H,9,none⟩ v') (Gr U w w1) {d with vc:=v'} g {h with az:=h.az++[(b,t)]}:=by
 have hHl:d.H<w.heap.size:=p.lt _ (p.dR _ (Or.inl rfl));have hHn:some d.H≠d.vc.ownBlock:=fun c=>(p.nc _ c.symm) rfl
 have hnew:∀k,v'.ownBlock=some k→d.vc.ownBlock=some k∨k=w.heap.size:=fun k e=>by
  rcases hat with a|a
  ·exact Or.inl (a▸e)
  ·rw[a]at e;injection e with e;exact Or.inr e.symm
 have hvH:∀k,v'.ownBlock=some k→k≠d.H:=fun k e=>by
  rcases hnew k e with e|e
  ·exact(p.nc k e)
  ·omega
 have hblk:∀k,k<w.heap.size→k≠d.H→d.vc.ownBlock≠some k→(w1.setCell ⟨d.H,9,none⟩ v').heap[k]?=w.heap[k]?:=fun k hk h1 h2=>
  (heap_setCell_other w1 ⟨d.H,9,none⟩ k v' h1).trans (hg.block k hk (fun c=>h2 c.symm))
 have hWr:∀k,k<w.heap.size→¬d.Wr k→¬HD.Wr {d with vc:=v'} k:=fun k hk hn c=>by
  unfold HD.Wr at hn c;dsimp only at c;rcases c with c|c|c|c
  ·exact hn (Or.inl c)
  ·exact hn (Or.inr (Or.inl c))
  ·exact hn (Or.inr (Or.inr (Or.inl c)))
  ·rcases hnew k c with c|c
   ·exact hn (Or.inr (Or.inr (Or.inr c)))
   ·omega
 have hlt2:=hg.size
 exact{
  cell:=by
   intro j hj;have hc:∀j,j<40→w1.cell? ⟨d.H,j,none⟩=some (hval d g h j):=fun j hj=>hg.cell (a:=⟨d.H,j,none⟩) (p.cell j hj) hHn
   by_cases e:j=9
   ·subst e;exact World.cell?_setCell_same _ _ _ (hc 9 hj)
   ·rw[World.cell?_setCell_other _ _ _ _ (fun c=>e (by injection c with _ c2 _;exact c2.symm)),hc j hj];unfold hval;simp only[if_neg e]
  thaw:=fun j=>by rw[World.frozen?_setCell,World.frozen?_of_block (w:=w) (a:=⟨d.H,j,none⟩) (hg.block d.H hHl hHn)];exact p.thaw j
  rk:=ay p.rk (fun b e=>hblk b (aL p.rk e) (p.nk b e).1 (p.nk b e).2.2)
  rf:=ay p.rf (fun b e=>hblk b (aL p.rf e) (p.nf b e).1 (p.nf b e).2)
  rc:=by
   have:=ay ho (w':=w1.setCell ⟨d.H,9,none⟩ v') (fun b e=>heap_setCell_other w1 ⟨d.H,9,none⟩ b v' (hvH b e))
   simpa[oH]using this
  nk:=fun b e=>by
   refine⟨(p.nk b e).1,(p.nk b e).2.1,fun c=> ?_⟩
   rcases hnew b c with c|c
   ·exact(p.nk b e).2.2 c
   ·have:=aL p.rk e;omega
  nf:=fun b e=>by
   refine⟨(p.nf b e).1,fun c=> ?_⟩
   rcases hnew b c with c|c
   ·exact(p.nf b e).2 c
   ·have:=aL p.rf e;omega
  nc:=fun b e=>hvH b e
  code:=p.code.of_block (hblk _ (p.lt _ p.kW) (fun c=>p.dX (Or.inl c)) (fun c=>p.dX (Or.inr (Or.inr (Or.inr c)))))
  dX:=hWr _ (p.lt _ p.kW) p.dX
  kept:=by
   intro i k hk
   obtain⟨h1,b,h2,h3,h4,h5⟩:=p.kept i k hk
   exact⟨h1,b,h2,fun q hq=>(World.cell?_of_block (w:=w) (a:=⟨b,q,none⟩) (hblk b (p.lt b h5) (fun c=>h4 (Or.inl c)) (fun c=>h4 (Or.inr (Or.inr (Or.inr c)))))).trans (h3 q hq),hWr b (p.lt b h5) h4,Or.inl h5⟩
  dR:=fun k hk=>by
   unfold HD.Wr at hk;dsimp only at hk;rcases hk with c|c|c|c
   ·exact Or.inl (p.dR k (Or.inl c))
   ·exact Or.inl (p.dR k (Or.inr (Or.inl c)))
   ·exact Or.inl (p.dR k (Or.inr (Or.inr (Or.inl c))))
   ·rcases hnew k c with e|e
    ·exact Or.inl (p.dR k (Or.inr (Or.inr (Or.inr e))))
    ·exact Or.inr ⟨by omega,aL ho c⟩
  kW:=Or.inl p.kW
  lt:=fun k hk=>by
   rw[World.size_setCell];rcases hk with c|c
   ·have:=p.lt k c;omega
   ·exact c.2
  low:=fun k hk=>by
   rcases hk with c|c
   ·exact p.low k c
   ·have:=p.two;omega}
def mY:Cr:=⟨⟨#[]⟩,0,0⟩
theorem gT:∀(l:List Cr) (j:Nat),j<l.length→(bH l)[j*3]?=some (.string (l.getD j mY).text)∧(bH l)[j*3+1]?=some (.int .i64 (l.getD j mY).fault)∧(bH l)[j*3+2]?=some (.int .i64 (l.getD j mY).place)
 |[],j,h=>by simp at h
 |c::l,0,_=>⟨rfl,rfl,rfl⟩
 |c::l,j+1,h=>by
  have ih:=gT l j (by simpa using h);have e:bH (c::l)=.string c.text:: .int .i64 c.fault:: .int .i64 c.place::bH l:=rfl;rw[e,show(j+1)*3=j*3+1+1+1 by omega,show j*3+1+1+1+1=(j*3+1)+1+1+1 by omega,show j*3+1+1+1+2=(j*3+2)+1+1+1 by omega];simpa using ih
theorem lW {α:Type}(l:List α)(d:α)(P:α→Bool):((List.range l.length).any fun j=>P (l.getD j d))=l.any P:=by
 rw[Bool.eq_iff_iff,List.any_eq_true,List.any_eq_true];constructor
 ·rintro⟨j,hj,h⟩
  have hj':=List.mem_range.1 hj
  refine⟨l.getD j d,?_,h⟩
  rw[List.getD_eq_getElem?_getD,List.getElem?_eq_getElem hj',Option.getD_some];exact List.getElem_mem hj'
 ·rintro⟨x,hx,h⟩
  obtain⟨j,hj⟩:=List.getElem?_of_mem hx
  refine⟨j,List.mem_range.2 (List.getElem?_eq_some_iff.1 hj).1,?_⟩
  rw[List.getD_eq_getElem?_getD,hj];exact h
theorem wL (B:Nat)(l:List Cr)(w:World)(f p:Int)(hB:B<w.heap.size)(h1:w.cell? ⟨B,1,none⟩=some (.int .i64 f))(h2:w.cell? ⟨B,2,none⟩=some (.int .i64 p))(n:Nat):
  jb 166 #[.pointer (some ⟨B,0,none⟩)] n (fun j=>.agg #[.string (l.getD j mY).text,.int .i64 (l.getD j mY).fault,.int .i64 (l.getD j mY).place]) (fun j=>dV f p (l.getD j mY)) w:=by
 intro W j _ hW;have c1:=(hW.cell (p:=⟨B,1,none⟩) hB).trans h1;have c2:=(hW.cell (p:=⟨B,2,none⟩) hB).trans h2;have hs:=hW.size;have HB:=hid hW;clear h1 h2 hW;dsimp only;unfold dV;generalize l.getD j mY=k
 obtain⟨t,a,b⟩:=k
 dsimp only;have hB':B<W.heap.size:=by omega
 by_cases e1:a=f
 ·by_cases e2:b=p
  ·go_in;go_wp2;go_ret
   exact⟨by simp[e1,e2],HB.out.alloc hs _⟩
  ·go_in;go_wp2;go_ret
   exact⟨by simp[e1,e2],HB.out.alloc hs _⟩
 ·go_in;go_wp2;go_ret
  exact⟨by simp[e1],HB.out.alloc hs _⟩
theorem rY:∀args w,(callFunc 166 args).run Tryz.prog w=.ok (.enter 166 args) w:=enters_of Tryz.func166 (by kernel_rfl) rfl
theorem aO {w:World}{base:Nat}{e:TypeId}{size:Nat}{v:Value}{n:Nat}{xs:List Value}(h:w.ownsRow base e size v n xs):(v=.slice none 0 0∧n=0)∨∃b cap,v=.slice (some ⟨b,0,none⟩) n cap∧b<w.heap.size∧cap≤maxLen∧n≤cap∧∀(i:Nat) (u:Value),xs[i]?=some u→w.cell? ⟨b,i,none⟩=some u:=by
 rcases h.2 with h0|⟨b,cap,cur,hv,hg,hh,hn,hcap,r⟩
 ·exact Or.inl h0
 ·refine Or.inr ⟨b,cap,hv,(Array.getElem?_eq_some_iff.1 hh).1,hcap,hn,fun i u hu=> ?_⟩
  have:=h.cells (g:=b) (by rw[hv];rfl) i u hu
  rw[Addr.add_lit]at this;simpa using this
theorem Cl {w:World}{U:Nat→Prop}{d:HD}{g:PG}{h:HS}(p:HU w U d g h)(B:Nat)(f q:Int)(hB:B<w.heap.size)(h1:w.cell? ⟨B,1,none⟩=some (.int .i64 f))(h2:w.cell? ⟨B,2,none⟩=some (.int .i64 q)):
  Calls Tryz.prog 167 #[.pointer (some ⟨d.H,8,none⟩),.func (.func 166) #[] #[.pointer (some ⟨B,0,none⟩)]] w fun e w'=>e=.returned (.bool (h.found.any (dV f q)))∧Below w.heap.size w w':=by
 have c8:w.cell? ⟨d.H,8,none⟩=some d.vf:=p.cell 8 (by omega);have HT:=wL B h.found w f q hB h1 h2;rcases aO p.rf with⟨hv,hn⟩|⟨b,cap,hv,hb,hcap,hnc,hc⟩
 ·rw[hv]at c8;have e:h.found=[]:=List.eq_nil_of_length_eq_zero hn;rw[e];clear p HT;go_in;go_wp2_with fail
  refine(Ce _ _ _ _).mono ?_
  rintro e w1 ⟨rfl,hw⟩;obtain rfl:=hw.symm;go_wp2_with fail
  go_ret
  exact⟨rfl,Below.refl _ _⟩
 ·rw[hv]at c8;have hmx:h.found.length≤9223372036854775807:=by unfold maxLen at hcap;omega
  have HC:Hid (Calls Tryz.prog 190 #[.slice (some ⟨b,0,none⟩) h.found.length cap,.func (.func 166) #[] #[.pointer (some ⟨B,0,none⟩)]] w fun e w'=>e=.returned (.bool ((List.range h.found.length).any fun j=>dV f q (h.found.getD j mY)))∧Below w.heap.size w w'):=
   Eo _ _ rY b h.found.length cap _ _ _ _ w (HT _) hmx hb (fun j hj=>hc _ _ (gT h.found j hj).1) (fun j hj=>hc _ _ (gT h.found j hj).2.1) (fun j hj=>hc _ _ (gT h.found j hj).2.2)
  rw[lW]at HC;generalize h.found.any (dV f q)=r at HC⊢;generalize h.found.length=n at*;clear p HT hc;go_in;go_wp2_with fail
  refine HC.out.mono ?_;rintro e w1 ⟨rfl,B1⟩;go_wp2_with fail
  go_ret
  exact⟨rfl,B1⟩
theorem yR:(Tryz.prog.info? 67).map (fun i=>(i.zero,i.size,i.bytes))=some (some (.agg #[.string ⟨#[]⟩,.int .i64 0,.int .i64 0]),3,32):=by kernel_rfl
theorem JM:(Tryz.prog.info? 147).map (fun i=>(i.zero,i.size,i.bytes))=some (some (.agg #[.string ⟨#[]⟩,.slice none 0 0]),2,40):=by kernel_rfl
theorem bB {t:TypeId}{z:Option Value}{s b:Nat}(h:(Tryz.prog.info? t).map (fun i=>(i.zero,i.size,i.bytes))=some (z,s,b)):∃i,Tryz.prog.info? t=some i∧i.zero=z∧i.size=s∧i.bytes=b:=by
 cases e:Tryz.prog.info? t with
 |none=>rw [e]at h;cases h
 |some i=>rw [e]at h;simp at h;exact⟨i,rfl,h.1,h.2.1,h.2.2⟩
structure aA (U:Nat→Prop) (H:Nat) (g:PG) (h':HS) (w w':World):Prop where
 fr:Fr U w w'
 hu:∃d,d.H=H∧HU w' (Gr U w w') d g h'
theorem fQ {P:Program}{ops:Array Oper}{o:Oper}{a:Act}{w:World}{K:Act→World→Prop}{Q:Exit→Act→World→Prop}{E:Prop}
  (hgd:o.guard=none)(s x:Operand)(t:TypeId)(ho:o.op=.call {callee:=.builtin .append,args:=#[s,x],argTypes:=#[t,t]})
  (base:Nat)(e:TypeId)(i:TypeInfo)(z:Value)(size bytes:Nat)(ht:P.underlying t=some (.slice e))(hi:P.info? e=some i)(hz:i.zero=some z)
  (hsize:i.size=size)(hby:i.bytes=bytes)(hzs:z.cells.size=size)(hsz:0<size)
  (v:Value)(n:Nat)(xs:List Value)(hs:a.eval s=v)(hown:w.ownsRow base e size v n xs)
  (ad:Addr)(m c:Nat)(news:List Value)(hx:a.eval x=.slice (some ad) m c)(hl:news.length=m*size)(hnews:∀j u,news[j]?=some u→w.cell? (ad.add j)=some u)(h1:∀u∈news,u.oneCell'=true)
  (h63:n+m≤maxLen)(hbytes:(n+m)*bytes≤140737488355328)(hbase:base≤w.heap.size)
  (h:∀v' w',w'.ownsRow base e size v' (n+m) (xs++news)→w.grownBy w' v.ownBlock→(v'.ownBlock=v.ownBlock∨v'.ownBlock=some w.heap.size)→K (a.put o.dst v') w'):
  if Region.wanted o (yielded ops a.tmps)=true then Oper.wp P o a w K Q else E:=by
 have hw:Region.wanted o (yielded ops a.tmps)=true:=by simp[Region.wanted,hgd]
 rw[if_pos hw]
 obtain⟨v',w',hr,h2,h3,_,h5⟩:=run_append_own_at (P:=P) w base t o.type e i z size bytes ht hi hz hsize hby hzs hsz v n xs hown ad m c news hl hnews h1 h63 hbytes hbase
 unfold Oper.wp;simp[execOp,ho,resolve,invoke,builtin,hs,hx,hr,Result.andThen];exact h v' w' h2 h3 h5
theorem kG (w:World)(cs:List Value)(t:TypeId):∀(j:Nat) (u:Value),cs[j]?=some u→(w.alloc (.cells cs.toArray t)).cell? ((⟨w.heap.size,0,none⟩:Addr).add j)=some u:=by
 intro j u hj;have hadd:(⟨w.heap.size,0,none⟩:Addr).add j=⟨w.heap.size,j,none⟩:=by unfold Addr.add;split<;>simp_all
 rw[hadd,World.cell?_alloc_new];simpa using hj
theorem gZ (w:World)(cs:List Value)(t:TypeId)(n:Nat)(hn:w.heap.size=n):∀(j:Nat) (u:Value),cs[j]?=some u→(w.alloc (.cells cs.toArray t)).drew.cell? ((⟨n,0,none⟩:Addr).add j)=some u:=by
 subst hn;exact kG w cs t
theorem HU.alloc {w:World}{U:Nat→Prop}{d:HD}{g:PG}{h:HS}(p:HU w U d g h)(o:Obj):HU (w.alloc o) (Gr U w (w.alloc o)) d g h:=p.gr ((Below.refl _ _).alloc (Nat.le_refl _) o)
theorem mZ {w w':World}{U:Nat→Prop}{d:HD}{g:PG}{h:HS}(p:HU w U d g h){v:Value}(hg:w.grownBy w' v.ownBlock)(hne:some d.H≠v.ownBlock)(j:Nat)(hj:j<40):w'.cell? ⟨d.H,j,none⟩=some (hval d g h j)∧w'.frozen? ⟨d.H,j,none⟩=false:=by
 refine⟨hg.cell (a:=⟨d.H,j,none⟩) (p.cell j hj) hne,?_⟩
 rw[World.frozen?_of_block (w:=w) (a:=⟨d.H,j,none⟩) (hg.block d.H (p.lt _ (p.dR _ (Or.inl rfl))) hne)];exact p.thaw j
theorem fR {U:Nat→Prop}{w a b:World}(h:a.heap.size=b.heap.size):Gr U w a=Gr U w b:=by unfold Gr;rw[h]
theorem Cm {w:World}{U:Nat→Prop}{d:HD}{g:PG}{h:HS}(p:HU w U d g h)(t:ByteArray)(f q:Int)(hn:h.found.length≤1000000):
  Calls Tryz.prog 168 #[.pointer (some ⟨d.H,8,none⟩),.agg #[.string t,.int .i64 f,.int .i64 q]] w fun e w'=>e=.returned (.tuple #[])∧aA U d.H g {h with found:=h.found++[⟨t,f,q⟩]} w w':=by
 obtain⟨i,hi,hz0,hz1,hz2⟩:=bB yR
 have c0:w.cell? ⟨d.H,8,none⟩=some d.vf:=p.cell 8 (by omega);have f0:=p.thaw 8;have hH:d.H<w.heap.size:=p.lt _ (p.dR _ (Or.inl rfl));have hne:some d.H≠d.vf.ownBlock:=fun c=>(p.nf _ c.symm).1 rfl
 have b2:Below w.heap.size w ((w.alloc (.cells #[.string t,.int .i64 f,.int .i64 q] 67)).alloc (.cells #[.string t,.int .i64 f,.int .i64 q] 67)):=((Below.refl _ _).alloc (Nat.le_refl _) _).alloc (by simp) _;have p2:=p.gr b2;have HF:Hid (∀v' w6,w6.ownsRow 0 67 3 v' (h.found.length+1) (bH h.found++[.string t,.int .i64 f,.int .i64 q])→((w.alloc (.cells #[.string t,.int .i64 f,.int .i64 q] 67)).alloc (.cells #[.string t,.int .i64 f,.int .i64 q] 67)).grownBy w6 d.vf.ownBlock→(v'.ownBlock=d.vf.ownBlock∨v'.ownBlock=some ((w.alloc (.cells #[.string t,.int .i64 f,.int .i64 q] 67)).alloc (.cells #[.string t,.int .i64 f,.int .i64 q] 67)).heap.size)→
   (w6.cell? ⟨d.H,8,none⟩=some d.vf∧w6.frozen? ⟨d.H,8,none⟩=false)∧aA U d.H g {h with found:=h.found++[⟨t,f,q⟩]} w (w6.setCell ⟨d.H,8,none⟩ v')):=by
  intro v' w6 ho hg hat
  refine⟨mZ p2 hg hne 8 (by omega),?_,{d with vf:=v'},rfl,?_⟩
  ·exact((Fr.below b2).same (Fr.grown hg (fun k e=>p.dR k (Or.inr (Or.inr (Or.inl e)))))).same (Fr.set (p.dR _ (Or.inl rfl)) 8 v')
  ·have:=p2.KF t f q v' hg ho hat
   rw[mK b2.size hg.size]at this;rw[fR (World.size_setCell w6 _ _)];exact this
 have hrf:=p2.rf;clear p p2 b2;go_in;go_wp2_with fail
 go_region_law(refine fQ rfl (.tmp 8) (.tmp 10) 57 rfl 0 67 i _ 3 32 Tryz.underlying57 hi hz0 hz1 hz2 rfl (by decide) d.vf h.found.length (bH h.found) (by simp[Act.eval]) (ay hrf (fun _ _=>rfl)) ⟨w.heap.size+1,0,none⟩ 1 1 [.string t,.int .i64 f,.int .i64 q] (by simp[Act.eval]) rfl (gZ (w.alloc (.cells #[.string t,.int .i64 f,.int .i64 q] 67)) [.string t,.int .i64 f,.int .i64 q] 67 (w.heap.size+1) (by simp)) (by intro u hu;simp at hu;rcases hu with rfl|rfl|rfl<;>rfl) (by unfold maxLen;omega) (by omega) (by omega) ?_;intro v6 w6 ho6 hg6 hat6;obtain⟨g6,k6,rfl⟩:=aB ho6 (by omega);obtain⟨⟨c6,f6⟩,hfin⟩:=HF.out _ w6 ho6 ⟨hg6.os,hg6.tape,hg6.output,hg6.size,hg6.block⟩ hat6;have HALL:Hid _:=hfin;clear ho6 hg6 hat6 hfin)
 all_goals
  go_wp2;go_end0
  exact⟨rfl,HALL.out⟩
theorem aA.then {U:Nat→Prop}{H:Nat}{g:PG}{h1 h2:HS}{w w1 w2:World}(p:aA U H g h1 w w1)(q:aA (Gr U w w1) H g h2 w1 w2):aA U H g h2 w w2:=by
 obtain⟨d,hd,hu⟩:=q.hu
 refine⟨p.fr.trans q.fr,d,hd,?_⟩
 rw[mK p.fr.size q.fr.size]at hu;exact hu
theorem aA.of {U:Nat→Prop}{d:HD}{g:PG}{h:HS}{w w':World}(p:HU w U d g h)(b:Below w.heap.size w w'):aA U d.H g h w w':=⟨Fr.below b,d,rfl,p.gr b⟩
theorem wV {w:World}{U:Nat→Prop}{d:HD}{g:PG}{h:HS}(p:HU w U d g h)(b:Bool)(t:ByteArray)(x:Int)(hx:x=letter b):∀v' w6,w6.ownsRow 0 5 1 v' (h.az.length+1) (oH h.az++[.int .u8 x])→
  (w.alloc (.cells #[.int .u8 x] 5)).grownBy w6 d.vc.ownBlock→(v'.ownBlock=d.vc.ownBlock∨v'.ownBlock=some (w.alloc (.cells #[.int .u8 x] 5)).heap.size)→
  (w6.cell? ⟨d.H,9,none⟩=some d.vc∧w6.frozen? ⟨d.H,9,none⟩=false)∧aA U d.H g {h with az:=h.az++[(b,t)]} w (w6.setCell ⟨d.H,9,none⟩ v'):=by
 subst hx;intro v' w6 ho hg hat;have hne:some d.H≠d.vc.ownBlock:=fun c=>p.nc _ c.symm rfl
 have b2:Below w.heap.size w (w.alloc (.cells #[.int .u8 (letter b)] 5)):=(Below.refl _ _).alloc (Nat.le_refl _) _;have p2:=p.gr b2
 refine⟨mZ p2 hg hne 9 (by omega),?_,{d with vc:=v'},rfl,?_⟩
 ·exact((Fr.below b2).same (Fr.grown hg (fun k e=>p.dR k (Or.inr (Or.inr (Or.inr e)))))).same (Fr.set (p.dR _ (Or.inl rfl)) 9 v')
 ·have:=p2.KG b t v' hg ho hat
  rw[mK b2.size hg.size]at this;rw[fR (World.size_setCell w6 _ _)];exact this
def nO (h:HS)(t:ByteArray)(f q:Int):HS×Int:=if h.found.any (dV f q)then(h,0)else({h with found:=h.found++[⟨t,f,q⟩],az:=h.az++[(false,t)]},99)
theorem ED {w:World}{U:Nat→Prop}{d:HD}{g:PG}{h:HS}(p:HU w U d g h)(t:ByteArray)(f q:Int)(hn:h.found.length≤1000000)(hn2:h.az.length≤1000000):
  Calls Tryz.prog 121 #[.pointer (some ⟨d.H,0,none⟩),.agg #[.string t,.int .i64 f,.int .i64 q]] w fun e w'=>e=.returned (.int .u8 (nO h t f q).2)∧aA U d.H g (nO h t f q).1 w w':=by
 have B0:Below w.heap.size w (w.alloc (.cells #[.string t,.int .i64 f,.int .i64 q] 67)):=(Below.refl _ _).alloc (Nat.le_refl _) _;have p0:=p.gr B0;have H1:Hid (Calls Tryz.prog 167 #[.pointer (some ⟨d.H,8,none⟩),.func (.func 166) #[] #[.pointer (some ⟨w.heap.size,0,none⟩)]] (w.alloc (.cells #[.string t,.int .i64 f,.int .i64 q] 67)) fun e w'=>e=.returned (.bool (h.found.any (dV f q)))∧Below (w.alloc (.cells #[.string t,.int .i64 f,.int .i64 q] 67)).heap.size (w.alloc (.cells #[.string t,.int .i64 f,.int .i64 q] 67)) w'):=
  Cl p0 w.heap.size f q (by simp) (by rw[World.cell?_alloc_new];rfl) (by rw[World.cell?_alloc_new];rfl)
 have hz0:(w.alloc (.cells #[.string t,.int .i64 f,.int .i64 q] 67)).heap.size=w.heap.size+1:=by simp
 have hHne:d.H≠w.heap.size:=by have:=p.lt _ (p.dR _ (Or.inl rfl));omega
 obtain⟨iu,hiu,hzu0,hzu1,hzu2⟩:=lB
 unfold nO
 cases hany:h.found.any (dV f q)with
 |true=>
  rw[if_pos rfl];rw[hany]at H1;have HP:=hid p;clear p p0;go_in;go_wp2_with fail
  refine H1.out.mono ?_;rintro e w1 ⟨rfl,B1⟩;go_wp2_with fail
  go_ret;rw[hz0]at B1
  exact⟨rfl,aA.of HP.out (B0.trans (B1.mono (by omega)))⟩
 |false=>
  rw[if_neg (by decide)];rw[hany]at H1;have HP:=hid p;clear p p0;go_in;go_wp2_with fail
  refine H1.out.mono ?_;rintro e w1 ⟨rfl,B1⟩;rw[hz0]at B1;have B01:=B0.trans (B1.mono (by omega));have hbk:w1.heap[w.heap.size]?=some (.cells #[.string t,.int .i64 f,.int .i64 q] 67 (0,0)):=(B1.block _ (by omega)).trans (heap_alloc_new w _);have i0:w1.cell? ⟨w.heap.size,0,none⟩=some (.string t):=cell_of_row _ _ _ _ _ _ hbk;have i1:w1.cell? ⟨w.heap.size,1,none⟩=some (.int .i64 f):=cell_of_row _ _ _ _ _ _ hbk;have i2:w1.cell? ⟨w.heap.size,2,none⟩=some (.int .i64 q):=cell_of_row _ _ _ _ _ _ hbk;have B01d:=B01.drew;have HT1:=hid (aA.of HP.out B01d);have H2:Hid (Calls Tryz.prog 168 #[.pointer (some ⟨d.H,8,none⟩),.agg #[.string t,.int .i64 f,.int .i64 q]] w1.drew fun e w'=>e=.returned (.tuple #[])∧aA (Gr U w w1.drew) d.H g {h with found:=h.found++[⟨t,f,q⟩]} w1.drew w'):=Cm (HP.out.gr B01d) t f q hn;clear B1 B01 B01d hbk B0 H1;go_wp2_with fail
  go_region_with(go_at_call 168;refine H2.out.mono ?_;rintro e w2 ⟨rfl,hT2⟩)
  obtain⟨fr2,d2,hd2,p2⟩:=hT2
  have HT2:Hid (aA U d.H g {h with found:=h.found++[⟨t,f,q⟩]} w w2):=HT1.out.then ⟨fr2,d2,hd2,p2⟩;rw[mK HT1.out.fr.size fr2.size]at p2;have HC:Hid _:=wV p2 false t 99 rfl;have c9:w2.cell? ⟨d.H,9,none⟩=some d2.vc:=hd2▸p2.cell 9 (by omega);have hHl:d.H<w2.heap.size:=hd2▸p2.lt _ (p2.dR _ (Or.inl rfl));have hrc:=p2.rc;rw[hd2]at HC;clear fr2 p2 H2 HT1 hd2;go_wp2_with(at_builtin;refine wpList_append_own_at _ rfl (.tmp 21) (.tmp 22) 39 rfl 0 5 iu (.int .u8 0) 1 1 Tryz.underlying39 hiu hzu0 hzu1 hzu2 rfl (by decide) _ h.az.length _ rfl (hrc.alloc _) ⟨w2.heap.size,0,none⟩ 1 1 [.int .u8 99] rfl rfl (cell_one_new _ _ _) ?c2 (by unfold maxLen;omega) (by omega) (by omega) ?_)
  case c2=>first|rfl|(intro u hu;simp at hu;subst hu;rfl)
  intro v6 w6 ho6 hg6 _ hat6
  obtain⟨⟨c6,f6⟩,hfin⟩:=HC.out v6 w6 ho6 hg6 (by simpa using hat6)
  have HALL:Hid _:=HT2.out.then hfin
  obtain⟨g6,k6,rfl⟩:=aB ho6 (by omega)
  clear ho6 hg6 hat6 hfin HC hrc c9;go_wp2;go_ret
  exact⟨rfl,HALL.out⟩
def fV:dQ:=⟨⟨#[]⟩,fun _=>0⟩
structure Cv (w:World) (G:Nat→Nat) (l:List dQ):Prop where
 cell:∀j,j<l.length→∀p,p<64→w.cell? ⟨G j,p,none⟩=some (.int .u8 ((l.getD j fV).aV p))
 lt:∀j,j<l.length→G j<w.heap.size
theorem AB (w:World)(t:ByteArray)(gc p:Nat)(b x:Int)(hp:p<64)(hx:w.cell? ⟨gc,p,none⟩=some (.int .u8 x))(cx:jl x)(cb:jl b):
  Calls Tryz.prog 137 #[.agg #[.string t,.slice (some ⟨gc,0,none⟩) 64 64],.int .i64 p,.int .u8 b] w fun e w'=>e=.returned (.bool (hasB x b))∧Below w.heap.size w w':=by
 have hp':(p:Int)<64:=by omega
 have hl:=World.block_lt_of_cell? w ⟨gc,p,none⟩ hx;have hb:=wu cx cb;go_in;go_wp2;go_ret
 refine⟨?_,(Below.refl _ _).alloc (Nat.le_refl _) _⟩
 congr 2
 cases h:hasB x b with
 |true=>
  have:bits .and .u8 x b≠0:=fun c=>by rw[hb.1 c]at h;cases h
  simp[this]
 |false=>rw [hb.2 h];rfl
theorem uD (w:World)(P Q:Nat)(p:Nat)(b:Int)(hp:p<64)(cb:jl b)(G:Nat→Nat)(l:List dQ)(hC:Cv w G l)(hl:∀k∈l,∀q,jl (k.aV q))(hP:w.cell? ⟨P,0,none⟩=some (.int .i64 (p:Nat)))(hQ:w.cell? ⟨Q,0,none⟩=some (.int .u8 b)):
  jb 191 #[.pointer (some ⟨P,0,none⟩),.pointer (some ⟨Q,0,none⟩)] l.length (fun j=>.agg #[.string (l.getD j fV).text,.slice (some ⟨G j,0,none⟩) 64 64]) (fun j=>hasB ((l.getD j fV).aV p) b) w:=by
 intro W j hj hW;have hPl:P<w.heap.size:=World.block_lt_of_cell? w ⟨P,0,none⟩ hP;have hQl:Q<w.heap.size:=World.block_lt_of_cell? w ⟨Q,0,none⟩ hQ;have c1:=(hW.cell (p:=⟨P,0,none⟩) hPl).trans hP;have c2:=(hW.cell (p:=⟨Q,0,none⟩) hQl).trans hQ;have c3:=(hW.cell (p:=⟨G j,p,none⟩) (hC.lt j hj)).trans (hC.cell j hj p hp);have cx:jl ((l.getD j fV).aV p):=by
  rw[List.getD_eq_getElem?_getD,List.getElem?_eq_getElem hj,Option.getD_some];exact hl _ (List.getElem_mem hj) p
 have hs:=hW.size;have hP':P<W.heap.size:=by omega
 have hQ':Q<W.heap.size:=by omega
 have HB:Hid (Below w.heap.size w W):=hW;dsimp only;generalize l.getD j fV=k at c3 cx⊢;generalize G j=gj at c3⊢;clear hW hC hl hP hQ hPl hQl;have c3':(W.alloc (.cells #[.string k.text,.slice (some ⟨gj,0,none⟩) 64 64] 147)).cell? ⟨gj,p,none⟩=some (.int .u8 (k.aV p)):=(World.cell?_alloc_past _ _ _ (World.block_lt_of_cell? W ⟨gj,p,none⟩ c3)).trans c3;go_in;go_wp2_with fail
 refine(AB _ k.text gj p b _ hp c3' cx cb).mono ?_
 rintro e w1 ⟨rfl,B1⟩;have hz:(W.alloc (.cells #[.string k.text,.slice (some ⟨gj,0,none⟩) 64 64] 147)).heap.size=W.heap.size+1:=by simp
 rw[hz]at B1;have HB1:Hid (Below w.heap.size w w1):=(HB.out.alloc hs _).trans (B1.mono (by omega));clear B1;go_wp2_with fail
 go_ret
 exact⟨rfl,HB1.out⟩
theorem rZ:∀args w,(callFunc 191 args).run Tryz.prog w=.ok (.enter 191 args) w:=enters_of Tryz.func191 (by kernel_rfl) rfl
theorem HU.zg {w:World}{U:Nat→Prop}{d:HD}{g:PG}{h:HS}(p:HU w U d g h):∃G:Nat→Nat,Cv w G h.kept∧∀j,j<h.kept.length→d.xk[2*j]?=some (.string (h.kept.getD j fV).text)∧d.xk[2*j+1]?=some (.slice (some ⟨G j,0,none⟩) 64 64)∧¬d.Wr (G j)∧U (G j):=by
 have H:∀j:Nat,∃gj,j<h.kept.length→d.xk[2*j]?=some (.string (h.kept.getD j fV).text)∧d.xk[2*j+1]?=some (.slice (some ⟨gj,0,none⟩) 64 64)∧(∀q,q<64→w.cell? ⟨gj,q,none⟩=some (.int .u8 ((h.kept.getD j fV).aV q)))∧¬d.Wr gj∧U gj:=by
  intro j;by_cases hj:j<h.kept.length
  ·obtain⟨h1,b,h2,h3,h4,h5⟩:=p.kept j _ (List.getElem?_eq_getElem hj)
   refine⟨b,fun _=> ?_⟩
   rw[List.getD_eq_getElem?_getD,List.getElem?_eq_getElem hj,Option.getD_some]
   exact⟨h1,h2,h3,h4,h5⟩
  ·exact⟨0,fun c=>absurd c hj⟩
 obtain⟨G,hG⟩:=Classical.axiomOfChoice H
 exact⟨G,⟨fun j hj=>(hG j hj).2.2.1,fun j hj=>p.lt _ (hG j hj).2.2.2.2⟩,fun j hj=>⟨(hG j hj).1,(hG j hj).2.1,(hG j hj).2.2.2⟩⟩
theorem Cv.below {w w':World}{G:Nat→Nat}{l:List dQ}(h:Cv w G l)(b:Below w.heap.size w w'):Cv w' G l:=
 ⟨fun j hj p hp=>(b.cell (p:=⟨G j,p,none⟩) (h.lt j hj)).trans (h.cell j hj p hp),fun j hj=>Nat.lt_of_lt_of_le (h.lt j hj) b.size⟩
structure r5 (w:World) (v:Value) (G:Nat→Nat) (l:List dQ):Prop where
 form:(v=.slice none 0 0∧l=[])∨∃b cap,v=.slice (some ⟨b,0,none⟩) l.length cap∧b<w.heap.size∧l.length≤9223372036854775807∧cap≤9223372036854775807∧l.length≤cap∧(∀j,j<l.length→w.cell? ⟨b,j*2,none⟩=some (.string (l.getD j fV).text))∧∀j,j<l.length→w.cell? ⟨b,j*2+1,none⟩=some (.slice (some ⟨G j,0,none⟩) 64 64)
 zg:Cv w G l
theorem HU.I0 {w:World}{U:Nat→Prop}{d:HD}{g:PG}{h:HS}(p:HU w U d g h):∃G,r5 w d.vk G h.kept:=by
 obtain⟨G,hC,hG⟩:=p.zg
 refine⟨G,?_,hC⟩
 rcases aO p.rk with⟨hv,hn⟩|⟨b,cap,hv,hb,hcap,hnc,hc⟩
 ·exact Or.inl ⟨hv,List.eq_nil_of_length_eq_zero hn⟩
 ·unfold maxLen at hcap;refine Or.inr ⟨b,cap,hv,hb,by omega,hcap,hnc,fun j hj=> ?_,fun j hj=> ?_⟩
  ·rw[show j*2=2*j by omega];exact hc _ _ (hG j hj).1
  ·rw[show j*2+1=2*j+1 by omega];exact hc _ _ (hG j hj).2.1
theorem r5.below {w w':World}{v:Value}{G:Nat→Nat}{l:List dQ}(h:r5 w v G l)(b:Below w.heap.size w w'):r5 w' v G l:=by
 refine⟨?_,h.zg.below b⟩
 rcases h.form with c|⟨b',cap,h1,h2,h3,h3',h3'',h4,h5⟩
 ·exact Or.inl c
 ·exact Or.inr ⟨b',cap,h1,Nat.lt_of_lt_of_le h2 b.size,h3,h3',h3'',fun j hj=>(b.cell (p:=⟨b',j*2,none⟩) h2).trans (h4 j hj),fun j hj=>(b.cell (p:=⟨b',j*2+1,none⟩) h2).trans (h5 j hj)⟩
theorem Cw (w:World)(H:Nat)(v:Value)(G:Nat→Nat)(l:List dQ)(c7:w.cell? ⟨H,7,none⟩=some v)(K:r5 w v G l)(gf:Nat)(lb:Array Value)(eg:∀args w,(callFunc gf args).run Tryz.prog w=.ok (.enter gf args) w)(p:Nat→Bool)
  (hp:jb gf lb l.length (fun j=>.agg #[.string (l.getD j fV).text,.slice (some ⟨G j,0,none⟩) 64 64]) p w):
  Calls Tryz.prog 192 #[.pointer (some ⟨H,7,none⟩),.func (.func gf) #[] lb] w fun e w'=>e=.returned (.bool ((List.range l.length).any p))∧Below w.heap.size w w':=by
 rcases K.form with⟨rfl,rfl⟩|⟨b,cap,rfl,hb,hn,_,_,h0,h1⟩
 ·clear K hp;go_in;go_wp2_with fail
  refine(Cg _ _ _ _).mono ?_
  rintro e w1 ⟨rfl,hw⟩;obtain rfl:=hw.symm;go_wp2_with fail
  go_ret
  exact⟨rfl,Below.refl _ _⟩
 ·have HC:Hid (Calls Tryz.prog 212 #[.slice (some ⟨b,0,none⟩) l.length cap,.func (.func gf) #[] lb] w fun e w'=>e=.returned (.bool ((List.range l.length).any p))∧Below w.heap.size w w'):=Er gf lb eg b l.length cap _ _ p w hp hn hb h0 h1
  generalize(List.range l.length).any p=r at HC⊢
  clear K hp h0 h1;generalize l.length=n at*;go_in;go_wp2_with fail
  refine HC.out.mono ?_;rintro e w1 ⟨rfl,B1⟩;go_wp2_with fail
  go_ret
  exact⟨rfl,B1⟩
theorem iN (w:World)(x:Value)(t:TypeId)(n:Nat)(hn:w.heap.size=n):(w.alloc (.cells #[x] t)).cell? ⟨n,0,none⟩=some x:=by
 subst hn;rw[World.cell?_alloc_new];rfl
def J5 (l:List dQ)(aV:Nat→Int)(k:Nat):Prop:=∀q,q<k→aV q≠0→(l.any fun i=>hasB (i.aV q) (aV q))=true
theorem JQ {l:List dQ}{aV:Nat→Int}{k:Nat}(hk:k<64)(h0:aV k≠0)(h:(l.any fun i=>hasB (i.aV k) (aV k))=false):jo l aV=true:=by
 unfold jo;refine List.any_eq_true.2 ⟨k,List.mem_range.2 hk,?_⟩;rw[h];simp[h0]
theorem EE {l:List dQ}{aV:Nat→Int}(h:J5 l aV 64):jo l aV=false:=by
 unfold jo;rw[List.any_eq_false];intro q hq c;simp only[Bool.and_eq_true,decide_eq_true_eq,Bool.not_eq_true']at c;rw[h q (List.mem_range.1 hq) c.1]at c
 cases c.2
theorem Cx (w:World)(H:Nat)(v:Value)(G:Nat→Nat)(l:List dQ)(c7:w.cell? ⟨H,7,none⟩=some v)(hH:H<w.heap.size)(K:r5 w v G l)(hl:∀k∈l,∀q,jl (k.aV q))(gc:Nat)(aV:Nat→Int)(hcov:∀p,jl (aV p))(hc:∀p,p<64→w.cell? ⟨gc,p,none⟩=some (.int .u8 (aV p))):
  Calls Tryz.prog 169 #[.pointer (some ⟨H,0,none⟩),.slice (some ⟨gc,0,none⟩) 64 64] w fun e w'=>e=.returned (.bool (jo l aV))∧Below w.heap.size w w':=by
 have hgl:=World.block_lt_of_cell? w ⟨gc,0,none⟩ (hc 0 (by omega));have HK:=hid K;have HL:=hid hl;have HCV:=hid hcov;have HC:=hid hc;have H7:=hid c7;clear K hl hcov hc c7;go_in;go_wp2_with fail
 go_loopw [5,6,7,10] (fun _ _ _ i wr=>∃k:Nat,k≤64∧i=.int .i64 k∧Below w.heap.size w wr∧J5 l aV k) (fun _ _ _ i _=>64-(intOf i).toNat)
 case atStart=>exact ⟨0,by omega,rfl,Below.refl _ _,fun q hq=>by omega⟩
 case round=>
  obtain⟨k,hk,rfl,B,hold⟩:=hrel
  by_cases hlt:k<64
  ·have hi1:(k:Int)<64:=(by omega);have ck:=(B.cell (p:=⟨gc,k,none⟩) hgl).trans (HC.out k hlt);have HB:=hid B;have HO:=hid hold;have hs:=B.size;clear B hold;by_cases h0:aV k=0
   ·rw[h0]at ck;go_wp2_with fail
    go_roundw
    case rel=>exact ⟨k+1,by omega,by go_num,(HB.out.alloc hs _).alloc (by simp;omega) _,fun q hq hq0=>if e:q=k then absurd (e▸h0) hq0 else HO.out q (by omega) hq0⟩
    case measure=>simp [intOf];omega
   ·have cvk:=HCV.out k;have hcd:decide (aV k=0)=false:=(by simp[h0]);have B2:Below w.heap.size w ((wr.alloc (.cells #[.int .i64 (k:Int)] 3)).alloc (.cells #[.int .u8 (aV k)] 5)):=(HB.out.alloc hs _).alloc (by simp;omega) _;have K2:=HK.out.below B2;have T2:jb 191 #[.pointer (some ⟨wr.heap.size,0,none⟩),.pointer (some ⟨wr.heap.size+1,0,none⟩)] l.length (fun j=>.agg #[.string (l.getD j fV).text,.slice (some ⟨G j,0,none⟩) 64 64]) (fun j=>hasB ((l.getD j fV).aV k) (aV k)) ((wr.alloc (.cells #[.int .i64 (k:Int)] 3)).alloc (.cells #[.int .u8 (aV k)] 5)):=
     uD _ wr.heap.size (wr.heap.size+1) k (aV k) hlt cvk G l K2.zg HL.out (by rw[World.cell?_alloc_past _ _ _ (by simp),World.cell?_alloc_new];rfl)
      (iN _ _ _ _ (by simp))
    have HH:Hid (Calls Tryz.prog 192 #[.pointer (some ⟨H,7,none⟩),.func (.func 191) #[] #[.pointer (some ⟨wr.heap.size,0,none⟩),.pointer (some ⟨wr.heap.size+1,0,none⟩)]] ((wr.alloc (.cells #[.int .i64 (k:Int)] 3)).alloc (.cells #[.int .u8 (aV k)] 5)) fun e w'=>e=.returned (.bool ((List.range l.length).any fun j=>hasB ((l.getD j fV).aV k) (aV k)))∧Below ((wr.alloc (.cells #[.int .i64 (k:Int)] 3)).alloc (.cells #[.int .u8 (aV k)] 5)).heap.size ((wr.alloc (.cells #[.int .i64 (k:Int)] 3)).alloc (.cells #[.int .u8 (aV k)] 5)) w'):=
     Cw _ H v G l ((B2.cell (p:=⟨H,7,none⟩) hH).trans H7.out) K2 191 _ rZ _ T2
    rw[lW l fV (fun i=>hasB (i.aV k) (aV k))]at HH;have HB2:=hid B2;have hz2:((wr.alloc (.cells #[.int .i64 (k:Int)] 3)).alloc (.cells #[.int .u8 (aV k)] 5)).heap.size=wr.heap.size+1+1:=(by simp);clear K2 T2 B2
    cases hany:(l.any fun i=>hasB (i.aV k) (aV k))with
    |true=>
     rw[hany]at HH;go_wp2_with fail
     refine HH.out.mono ?_;rintro e w1 ⟨rfl,B1⟩;rw[hz2]at B1;have HB3:=hid (HB2.out.trans (B1.mono (by omega)));clear B1;go_wp2_with fail
     go_roundw
     case rel=>exact ⟨k+1,by omega,by go_num,HB3.out,fun q hq hq0=>if e:q=k then e▸hany else HO.out q (by omega) hq0⟩
     case measure=>simp [intOf];omega
    |false=>
     rw[hany]at HH;go_wp2_with fail
     refine HH.out.mono ?_;rintro e w1 ⟨rfl,B1⟩;rw[hz2]at B1;have HB3:=hid (HB2.out.trans (B1.mono (by omega)));clear B1;go_wp2_with fail
     go_ret
     exact⟨by rw[JQ hlt h0 hany];rfl,HB3.out⟩
  ·obtain rfl:k=64:=by omega
   go_wp2_with fail
   go_ret
   exact⟨by rw[EE hold];rfl,B⟩
end Go.Proofs.YtmpgjkhchfcjlaaGreatDoor
