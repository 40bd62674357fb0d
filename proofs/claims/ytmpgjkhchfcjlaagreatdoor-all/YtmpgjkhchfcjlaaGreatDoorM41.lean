import Derived.Test.YtmpgjkhchfcjlaaGreatDoorM37
namespace Go.Proofs.YtmpgjkhchfcjlaaGreatDoor
open Go.RowKit
def xO (cs fs:List Int)(k:Int)(w:World)(e:Ending)(w':World):Prop:=
 ∃base vc vf,w.heap.size≤base∧TR base w' vc vf cs fs∧e=.returned (.tuple #[vc,vf,.int .i64 k])∧Below w.heap.size w w'
theorem WR.tr {base W:Nat}{w:World}{vc vf:Value}{cs fs:List Int}(h:WR base W w vc vf cs fs):TR base w vc vf cs fs:=⟨h.bI,h.bR,h.apart,h.le⟩
theorem VP.Je {c:Nat→Int}{L N:Nat}(V:VP c L N):gq c L N 19 where
 sp:=⟨by have:=V.most;omega,by omega,V.byte,fun m hm=>V.op m hm,fun m hm=>V.fits hm,V.cell⟩
 last:=V.last
 ow:=by
  unfold dL;rw[if_neg (by have:=V.one;omega)];exact V.stop
 DO:=by
  intro m hm;unfold iE
  cases hl:aW (c (pos c m))with
  |false=>rfl
  |true=>
   obtain⟨t,ht,e⟩:=V.jump m hm hl
   have:started c N (c (pos c m+1)).toNat=true:=by
    unfold started;rw[List.any_eq_true]
    exact⟨t,List.mem_range.2 ht,by rw[←e];simp⟩
   rw[this];rfl
theorem A0 (L:Nat)(c:Nat→Int)(hby:∀i,i<L→0≤c i∧c i≤255):
  ∃cs fs k,cs.length≤240∧fs.length≤240∧(∀w v,b9 w v L c→bK w→Calls Tryz.prog 28 #[v] w (xO cs fs k w))∧(∀w v,b9 w v L c→Calls Tryz.prog 21 #[v] w (xO cs fs k w)):=by
 by_cases hV:∃N,VP c L N
 ·obtain⟨N,V⟩:=hV
  have hL0:0<L:=by have:=V.lt V.one;omega
  have hq:=V.xM
  refine⟨bL c N L,bf c N L,0,by rw[iQ];exact hq,by rw[cr];exact hq,?_,?_⟩
  ·intro w v C hT
   cases C with
   |bare p cap hv hL=>omega
   |full cb co cap hv C=>
    subst hv
    refine(zY w cb co L cap N c V C hT).mono ?_
    rintro e w' ⟨base,W,vc,vf,h1,h2,h3,h4⟩
    exact⟨base,vc,vf,by have:=h2.lt;omega,h2.tr,h3,h4⟩
  ·intro w v C
   cases C with
   |bare p cap hv hL=>omega
   |full cb co cap hv C=>
    subst hv
    exact(rL w cb co L cap N c V.Je V.most hby C).mono fun e w' h=>h
 ·refine⟨[],[],1,by simp,by simp,?_,?_⟩
  ·intro w v C hT
   refine(zZ w v L c hby C hT hV).mono ?_
   rintro e w' ⟨rfl,hB⟩
   exact⟨w.heap.size,_,_,Nat.le_refl _,⟨World.ownsRow_nil _ _ _ _,World.ownsRow_nil _ _ _ _,Or.inl rfl,hB.size⟩,rfl,hB⟩
  ·intro w v C
   refine(rM w v L c hby C hV).mono ?_
   rintro e w' ⟨rfl,hB⟩
   exact⟨w.heap.size,_,_,Nat.le_refl _,⟨World.ownsRow_nil _ _ _ _,World.ownsRow_nil _ _ _ _,Or.inl rfl,hB.size⟩,rfl,hB⟩
end Go.Proofs.YtmpgjkhchfcjlaaGreatDoor
