import Derived.Test.YtmpgjkhchfcjlaaGreatDoorM26
import Derived.Test.YtmpgjkhchfcjlaaGreatDoorM27
namespace Go.Proofs.YtmpgjkhchfcjlaaGreatDoor
open Go.RowKit
set_option maxRecDepth 100000
set_option maxHeartbeats 2000000
theorem I1 (W:World)(cb cc:Nat)(g:PG)(hg:oM g)(F:gq g.c g.L g.N 19)(s:ByteArray)(hs:s.size≤24)(C:Laid W cb 0 g.L cc g.c):
  Calls Tryz.prog 67 #[.slice (some ⟨cb,0,none⟩) g.L cc,.string s,.int .i64 g.fuel] W (r8 g s W):=by
 have h0:=hg.wW
 refine(vZ W cb 0 g.L cc g.c _ s g.fuel (Or.inl ⟨g.N,hg.vp.most,F,rfl⟩) hs (by omega) hg.fuel1 C).mono ?_
 rintro e w3 ⟨n,τ,h1,h2,h3,B3,gg,hgg,hcov,rfl⟩;subst h1;have hR:g.R s=Hu (after g.c (cP (aT g.c g.N) g.L) g.fuel (jm s) n):=wK ⟨h2,h3⟩
 refine⟨B3,_,_,gg,hgg,(Array.getElem?_eq_some_iff.1 hcov).1,fun p hp=> ?_,by rw[hR];rfl⟩
 rw[hR,cell_of_row w3 gg _ _ _ _ hcov];exact AD _ p hp
theorem JT:(Tryz.prog.info? 149).map (fun i=>(i.zero,i.size,i.bytes))=some (some (.agg #[.string ⟨#[]⟩,.slice none 0 0,.bool false]),3,48):=by kernel_rfl
section
variable {w W:World} {U:Nat→Prop} {Y:Nat} {d:DD} {g:PG} {h:HS} {ob gc:Nat} {s:ByteArray}
theorem DU.tries (p:DU w U Y d g h):DU (w.setCell ⟨Y,69,none⟩ (.int .i64 ((h.tries:Int)+1))) U Y {d with F:=upd d.F 69 (.int .i64 ((h.tries:Int)+1))} g {h with tries:=h.tries+1}:=
 p.set 69 rfl _ _ rfl rfl rfl (fun j _=>by
  by_cases e:j=69
  ·subst e;rfl
  ·rw[if_neg e];unfold ja;simp only[if_neg e];rfl)
theorem DU.hangs (p:DU w U Y d g h):DU (w.setCell ⟨Y,70,none⟩ (.int .i64 ((h.hangs:Int)+1))) U Y {d with F:=upd d.F 70 (.int .i64 ((h.hangs:Int)+1))} g {h with hangs:=h.hangs+1}:=
 p.set 70 rfl _ _ rfl rfl rfl (fun j _=>by
  by_cases e:j=70
  ·subst e;rfl
  ·rw[if_neg e];unfold ja;simp only[if_neg e];rfl)
theorem DU.told (p:DU w U Y d g h)(b:Bool)(s t:ByteArray)(ht:t=iw {h with az:=h.az++[(b,s)]}):DU (w.setCell ⟨Y,73,none⟩ (.string t)) U Y {d with F:=upd d.F 73 (.string t)} g {h with az:=h.az++[(b,s)]}:=
 p.set 73 rfl _ _ rfl rfl rfl (fun j _=>by
  subst ht;by_cases e:j=73
  ·subst e;rfl
  ·rw[if_neg e];unfold ja;simp only[if_neg e])
structure DT (w W:World) (U:Nat→Prop) (Y:Nat) (g:PG) (h:HS) (ob gc:Nat) (s:ByteArray) (d:DD):Prop where
 fr:Fr U w W
 du:DU W (Gr U w W) Y d g h
 o1:W.cell? ⟨ob,1,none⟩=some (.int .i64 (g.R s).fault)
 o2:W.cell? ⟨ob,2,none⟩=some (.int .i64 (g.R s).place)
 ol:ob<W.heap.size
 oY:ob≠Y
 aV:∀p,p<64→W.cell? ⟨gc,p,none⟩=some (.int .u8 ((g.R s).aV p))
 Lu:Gr U w W gc
 Lv:¬iB gS Y d.F gc
theorem KR (p:DU w U Y d g h)(fx:FX w W ob gc g s):∃d',DT w (W.setCell ⟨Y,69,none⟩ (.int .i64 ((h.tries:Int)+1))) U Y g {h with tries:=h.tries+1} ob gc s d':=by
 have p4:=p.gr fx.dY;have hY:=p.ob.lt;have hge:=fx.ge;have hgc:=fx.Lt;have hz:(W.setCell ⟨Y,69,none⟩ (.int .i64 ((h.tries:Int)+1))).heap.size=W.heap.size:=World.size_setCell _ _ _;have hk:∀(b j:Nat) (x:Value),b≠Y→(W.setCell ⟨Y,69,none⟩ x).cell? ⟨b,j,none⟩=W.cell? ⟨b,j,none⟩:=fun b j x hb=>World.cell?_setCell_other _ _ _ _ (fun c=>hb (by injection c with c1 _ _;exact c1.symm))
 refine⟨_,(Fr.below fx.dY).same (Fr.set (p.dk.dR _ (Or.inl rfl)) _ _),by rw[fR hz];exact p4.tries,(hk _ _ _ (by omega)).trans fx.o1,(hk _ _ _ (by omega)).trans fx.o2,by rw[hz];exact fx.lt,by omega,fun q hq=>(hk _ _ _ (by omega)).trans (fx.aV q hq),Or.inr ⟨hgc,by rw[hz];exact fx.LY⟩,fun c=> ?_⟩
 have:=(uu (Y:=Y) (i:=69) rfl _ d.F gc).1 c
 have:=p.dk.lt _ (p.dk.dR _ this)
 omega
theorem DT.done {d:DD}(t:DT w W U Y g h ob gc s d){W':World}(hs:W'.heap=W.heap)(ho:W'.os=W.os)(ht:W'.tape=W.tape)(hu:W'.output=W.output):bu U Y g h w W':=by
 refine⟨⟨ho.trans t.fr.os,ht.trans t.fr.tape,hu.trans t.fr.output,by rw[hs];exact t.fr.size,fun k hk hn=>by rw[hs];exact t.fr.block k hk hn⟩,d,?_⟩
 rw[fR (b:=W) (by rw[hs])]
 exact⟨t.du.ob.same hs,t.du.val,t.du.x4,t.du.dk.same hs⟩
end
def r9 (x:Int):Int:=if x=0 then 45 else x
theorem JU {w:World}{e:TypeId}{v:Value}{n:Nat}{xs:List Value}(h:w.ownsRow 0 e 3 v n xs):∃ao cap,v=.slice ao n cap∧n≤cap∧cap≤9223372036854775807∧∀j,j<n→∃b,ao=some ⟨b,0,none⟩∧b<w.heap.size∧∀(i:Nat) (u:Value),xs[i]?=some u→w.cell? ⟨b,i,none⟩=some u:=by
 rcases aO h with⟨hv,hn⟩|⟨b,cap,hv,hb,hcap,hnc,hc⟩
 ·exact⟨none,0,by rw[hn];exact hv,by omega,by omega,fun j hj=>by omega⟩
 ·unfold maxLen at hcap
  exact⟨_,cap,hv,hnc,hcap,fun j _=>⟨b,rfl,hb,hc⟩⟩
theorem wX (l:List (Bool×ByteArray))(hl:∀x∈l,x.2.size≤24):(strOfNums (gQ l)).size≤51*l.length:=by
 rw[eZ];induction l with
 |nil=>simp [gQ]
 |cons x l ih=>
  have h1:=ih (fun y hy=>hl y (by simp[hy]));have h2:=hl x (by simp);have h3:=jw (nums x.2);rw[af]at h3;simp only[gQ,List.length_append,sS,sR,List.length_cons,List.length_nil,h3];omega
def ic (l:List dQ)(aV:Nat→Int)(k:Nat):Bool:=(List.range k).any fun q=>decide (bits .andNot .u8 (aV q) (aS l q:Nat)≠0)
theorem zj (l:List dQ)(aV:Nat→Int)(k:Nat):ic l aV (k+1)=(ic l aV k||decide (bits .andNot .u8 (aV k) (aS l k:Nat)≠0)):=by
 unfold ic;rw[List.range_succ,List.any_append]
 simp
theorem Cz (l:List dQ)(aV:Nat→Int)(hc:∀p,jl (aV p))(hl:∀k∈l,∀q,jl (k.aV q)):ic l aV 64=jo l aV:=by
 unfold ic jo;congr 1
 funext q
 have:=Ee l q (aV q) (hc q) (fun k hk=>hl k hk q)
 by_cases c:bits .andNot .u8 (aV q) (aS l q:Nat)≠0
 ·obtain⟨a,b⟩:=this.1 c
  rw[b];simp[c,a]
 ·rw[decide_eq_false c];by_cases a:aV q≠0
  ·cases b:(l.any fun k=>hasB (k.aV q) (aV q))with
   |true=>simp
   |false=>exact absurd (this.2 ⟨a,b⟩) c
  ·rw[decide_eq_false a];rfl
theorem Sm.cell {w w':World}(s:Sm w w'){a:Addr}{v:Value}(h:w.cell? a=some v):w'.cell? a=some v:=(World.cell?_of_block (by rw[s.heap])).trans h
section
variable {w W:World} {U:Nat→Prop} {Y:Nat} {d:DD} {g:PG} {h:HS} {ob gc:Nat} {s:ByteArray}
theorem DT.sm (t:DT w W U Y g h ob gc s d){W':World}(m:Sm W W'):DT w W' U Y g h ob gc s d:=by
 have e:Gr U w W'=Gr U w W:=fR (by rw[m.heap])
 exact⟨⟨m.os.trans t.fr.os,m.tape.trans t.fr.tape,m.output.trans t.fr.output,by rw[m.heap];exact t.fr.size,fun k hk hn=>by rw[m.heap];exact t.fr.block k hk hn⟩,by rw[e];exact⟨t.du.ob.same m.heap,t.du.val,t.du.x4,t.du.dk.same m.heap⟩,m.cell t.o1,m.cell t.o2,by rw[m.heap];exact t.ol,t.oY,fun p hp=>m.cell (t.aV p hp),by rw[e];exact t.Lu,t.Lv⟩
theorem DT.doc (t:DT w W U Y g h ob gc s d):bu U Y g h w W:=⟨t.fr,d,t.du⟩
theorem DT.KS (t:DT w W U Y g h ob gc s d)(c:Cr):∀v' w6,w6.ownsRow 0 67 3 v' (h.found.length+1) (d.X 4++[.string c.text,.int .i64 c.fault,.int .i64 c.place])→(W.alloc (.cells #[.string c.text,.int .i64 c.fault,.int .i64 c.place] 67)).grownBy w6 (d.F 4).ownBlock→(v'.ownBlock=(d.F 4).ownBlock∨v'.ownBlock=some (W.alloc (.cells #[.string c.text,.int .i64 c.fault,.int .i64 c.place] 67)).heap.size)→
  (w6.cell? ⟨Y,4,none⟩=some (d.F 4)∧w6.frozen? ⟨Y,4,none⟩=false∧Y<w6.heap.size)∧bu U Y g {h with found:=h.found++[c]} w (w6.setCell ⟨Y,4,none⟩ v'):=by
 intro v' w6 ho hg hat;have b2:Below W.heap.size W (W.alloc (.cells #[.string c.text,.int .i64 c.fault,.int .i64 c.place] 67)):=(Below.refl _ _).alloc (Nat.le_refl _) _;have p2:=t.du.gr b2;have hne:some Y≠(d.F 4).ownBlock:=fun e=>t.du.ob.nM 4 rfl e.symm
 have q:=p2.KM c v' hg ho hat;rw[mK b2.size hg.size,←fR (U:=Gr U w W) (w:=W) (World.size_setCell w6 ⟨Y,4,none⟩ v')]at q
 refine⟨⟨hg.cell (a:=⟨Y,4,none⟩) (p2.ob.cell 4 (by decide)) hne,?_,Nat.lt_of_lt_of_le p2.ob.lt hg.size⟩,t.doc.then ⟨?_,_,q⟩⟩
 ·rw[World.frozen?_of_block (w:=W.alloc _) (a:=⟨Y,4,none⟩) (hg.block Y p2.ob.lt hne)];exact p2.ob.thaw 4
 ·exact((Fr.below b2).same (Fr.grown hg (fun k e=>t.du.dk.dR k (Or.inr ⟨4,rfl,e⟩)))).same (Fr.set (t.du.dk.dR _ (Or.inl rfl)) 4 v')
theorem bu.told {h1:HS}(t:bu U Y g h1 w W)(b:Bool)(s:ByteArray):W.cell? ⟨Y,73,none⟩=some (.string (iw h1))∧W.frozen? ⟨Y,73,none⟩=false∧Y<W.heap.size∧∀w8,Below W.heap.size W w8→(w8.cell? ⟨Y,73,none⟩=some (.string (iw h1))∧w8.frozen? ⟨Y,73,none⟩=false∧Y<w8.heap.size)∧bu U Y g {h1 with az:=h1.az++[(b,s)]} w (w8.setCell ⟨Y,73,none⟩ (.string (iw {h1 with az:=h1.az++[(b,s)]}))):=by
 obtain⟨d,p⟩:=t.du
 refine⟨p.cell 73 (by omega),p.ob.thaw 73,p.ob.lt,fun w8 B=> ?_⟩
 have q:=p.gr B;have r:=q.told b s _ rfl;rw[←fR (U:=Gr U w W) (w:=W) (World.size_setCell w8 ⟨Y,73,none⟩ (.string (iw {h1 with az:=h1.az++[(b,s)]})))]at r
 exact⟨⟨q.cell 73 (by omega),q.ob.thaw 73,q.ob.lt⟩,t.then ⟨(Fr.below B).same (Fr.set (p.dk.dR _ (Or.inl rfl)) _ _),_,r⟩⟩
end
theorem CB {R:ByteArray→Sh}{h:HS}{s:ByteArray}(h1:(R s).kind=1)(h2:h.found.any (dV (R s).fault (R s).place)=true):aD R h s=({h with tries:=h.tries+1},0):=by unfold aD;rw[if_pos h1,if_pos h2]
theorem CC {R:ByteArray→Sh}{h:HS}{s:ByteArray}(h1:(R s).kind=1)(h2:h.found.any (dV (R s).fault (R s).place)=false):aD R h s=({h with tries:=h.tries+1,found:=h.found++[⟨s,(R s).fault,(R s).place⟩],az:=h.az++[(false,s)]},99):=by unfold aD;rw[if_pos h1,h2];rfl
def CD (Y ob gc:Nat)(s:ByteArray)(v11 v12 v13 v14 v15 v16 v17 v18 v19 v20 v21 v22 v23:Value):Act:=⟨#[.pointer (some ⟨Y,0,none⟩),.string s,undef,undef,.int .u8 0,.pointer (some ⟨ob,0,none⟩),.slice (some ⟨gc,0,none⟩) 64 64,undef,undef,undef,undef,v11,v12,v13,v14,v15,v16,v17,v18,v19,v20,v21,v22,v23,undef,undef,undef,undef,undef,undef,undef,undef,undef,undef,undef,undef,undef,undef,undef,undef,undef,undef,undef,undef,undef,undef,undef,undef,undef,undef,undef,undef,undef,undef,undef,undef,undef,undef,undef,undef,undef,undef,undef,undef,undef,undef,undef,undef,undef,undef,undef,undef,undef,undef,undef,undef,undef,undef,undef,undef,undef,undef,undef,undef,undef,undef,undef,undef,undef,undef,undef,undef,undef,undef,undef,undef,undef,undef,undef,undef,undef,undef,undef,undef,undef,undef,undef,undef,undef,undef,undef,undef,undef,undef,undef,undef,undef,undef,undef,undef,undef,undef,undef,undef,undef,undef,undef,undef,undef,undef,undef,undef,undef,undef,undef,undef,undef,undef,undef,undef,undef,undef,undef,undef,undef,undef,undef,undef,undef,undef,undef,undef,undef,undef,undef,undef,undef,undef,undef,undef,undef,undef,undef,undef,undef,undef,undef,undef,undef,undef,undef,undef,undef,undef,undef,undef,undef,undef,undef,undef,undef],[]⟩
structure wY (w W:World) (U:Nat→Prop) (Y ob gc:Nat) (g:PG) (h:HS) (s:ByteArray):Prop where
 dt:∃d',DT w (W.setCell ⟨Y,69,none⟩ (.int .i64 ((h.tries:Int)+1))) U Y g {h with tries:=h.tries+1} ob gc s d'
 KT:W.cell? ⟨Y,69,none⟩=some (.int .i64 h.tries)
 KU:W.cell? ⟨Y,70,none⟩=some (.int .i64 h.hangs)
 f69:W.frozen? ⟨Y,69,none⟩=false
 f70:W.frozen? ⟨Y,70,none⟩=false
 lt:Y<W.heap.size
 ne:Y≠ob
 ol:ob<W.heap.size
 o0:W.cell? ⟨ob,0,none⟩=some (.int .i64 (g.R s).kind)
 hz:AE h
 log:(iw h).size≤1000000000
 cls:∀k∈h.kept,∀q,jl (k.aV q)
 wk:h.worked h.kept.length=false
 hs:s.size≤24
theorem EI {w W:World}{U:Nat→Prop}{Y:Nat}{d:DD}{g:PG}{h:HS}{ob gc:Nat}{s:ByteArray}(p:DU w U Y d g h)(fx:FX w W ob gc g s)(hcl:∀k∈h.kept,∀q,jl (k.aV q))(hz:AE h)(hlog:(iw h).size≤1000000000)(hwk:h.worked h.kept.length=false)(hs:s.size≤24):wY w W U Y ob gc g h s:=by
 have p4:=p.gr fx.dY
 obtain⟨d',t⟩:=KR p fx
 exact⟨⟨d',t⟩,p4.cell 69 (by omega),p4.cell 70 (by omega),p4.ob.thaw 69,p4.ob.thaw 70,p4.ob.lt,t.oY.symm,fx.lt,fx.o0,hz,hlog,hcl,hwk,hs⟩
def CE (U:Nat→Prop)(Y:Nat)(g:PG)(h:HS)(s:ByteArray)(w:World):Exit→Act→World→Prop:=bodyPost Tryz.prog Tryz.f82 fun e w'=>e=.returned (.int .u8 (r9 (aD g.R h s).2))∧bu U Y g (aD g.R h s).1 w w'
theorem EJ (w W:World)(U:Nat→Prop)(Y ob gc:Nat)(g:PG)(h:HS)(s:ByteArray)(v11 v12 v13 v14 v15 v16 v17 v18 v19 v20 v21 v22 v23:Value)(A:wY w W U Y ob gc g h s)(hk:(g.R s).kind=2):(ag Tryz.f82.body).wp Tryz.prog (CE U Y g h s w) (CD Y ob gc s v11 v12 v13 v14 v15 v16 v17 v18 v19 v20 v21 v22 v23) W:=by
 obtain⟨⟨d5,hdt⟩,KT,KU,f69,f70,hlt,hne,hol,e0,hz,_,_,_,_⟩:=A
 have htr:=hz.tries;have hha:=hz.hangs;rw[hk]at e0;have HY:Hid (aD g.R h s=({h with tries:=h.tries+1,hangs:=h.hangs+1},0)):=by show _=_;rw[uE,hk,if_neg (by decide),if_pos rfl]
 unfold CE;rw[HY.out];have HT5:Hid (bu U Y g {h with tries:=h.tries+1,hangs:=h.hangs+1} w ((W.setCell ⟨Y,69,none⟩ (.int .i64 ((h.tries:Int)+1))).setCell ⟨Y,70,none⟩ (.int .i64 ((h.hangs:Int)+1)))):=
  hdt.doc.then ⟨Fr.set (hdt.du.dk.dR _ (Or.inl rfl)) _ _,_,(jy (Gr U w (W.setCell ⟨Y,69,none⟩ (.int .i64 ((h.tries:Int)+1)))) _ _ (World.size_setCell _ _ _)).symm▸hdt.du.hangs⟩
 clear hdt hz hk;unfold CD;conv=>arg 2;whnf
 go_wp2;go_ret
 exact⟨rfl,HT5.out⟩
def bM (c:Nat→Int)(L:Nat):List Value:=(List.range L).map fun i=>Value.int .u8 (c i)
theorem j5 (c:Nat→Int)(L:Nat):(bM c L).length=L:=by unfold bM;simp
theorem j6 (c:Nat→Int){L i:Nat}(h:i<L):(bM c L)[i]?=some (.int .u8 (c i)):=by unfold bM;simp[List.getElem?_range h]
theorem qK (c:Nat→Int)(L:Nat):∀u∈bM c L,u.oneCell'=true:=by
 intro u hu;unfold bM at hu
 obtain⟨i,_,rfl⟩:=List.mem_map.1 hu
 rfl
theorem ue (w:World)(p:Option Addr)(cap:Nat):(Builtin.append_ #[39,39] 39 #[.slice none 0 0,.slice p 0 cap]).run Tryz.prog w=.ok (.slice none 0 0) w:=by
 obtain⟨i,hi,hz0,hz1,hz2⟩:=info_parts Tryz.kf
 cases p<;>simp [Builtin.append_,run_underlying Tryz.underlying39,sizeOf,typeInfo,hi,loadCells,go_sem]
def dF (c:Nat→Int)(L i:Nat):Int:=if i<L then c i else 252
theorem wj (c:Nat→Int)(L k:Nat):bM (dF c L) (L+k)++[.int .u8 252]=bM (dF c L) (L+(k+1)):=by
 unfold bM;rw[←Nat.add_assoc,List.range_succ,List.map_append];show _=_++[Value.int .u8 (dF c L (L+k))];unfold dF;rw[if_neg (by omega)]
theorem BM (c:Nat→Int)(L:Nat):bM c L=bM (dF c L) (L+0):=by
 unfold bM;apply List.map_congr_left;intro i hi;show _=Value.int .u8 (dF c L i);unfold dF;rw[if_pos (List.mem_range.1 hi)]
theorem ld (w:World)(v:Value)(L:Nat)(c:Nat→Int)(C:b9 w v L c)(hL:L+8≤140737488355328):
  Calls Tryz.prog 22 #[v] w fun e w'=>∃g cap,e=.returned (.slice (some ⟨g,0,none⟩) (L+8) cap)∧w'.ownsRow w.heap.size 5 1 (.slice (some ⟨g,0,none⟩) (L+8) cap) (L+8) (bM (dF c L) (L+8))∧Below w.heap.size w w':=by
 obtain⟨i,hi,hz0,hz1,hz2⟩:=info_parts Tryz.kf
 have key:Hid (∀(o:Value) (w1:World),w1.ownsRow w.heap.size 5 1 o L (bM c L)→Below w.heap.size w w1→w1.ownsRow w.heap.size 5 1 o (L+0) (bM (dF c L) (L+0))):=by
  intro o w1 h _;rw[←BM];exact h
 go_in
 cases C with
 |bare p cap hv hL0=>
  subst hv;have hrun:=ue w p cap;have O1:Hid (w.ownsRow w.heap.size 5 1 (.slice none 0 0) (L+0) (bM (dF c L) (L+0))):=key.out _ _ (by rw[hL0];exact World.ownsRow_nil _ _ _ _) (Below.refl _ _);clear hL0;go_wp2_with(at_builtin;refine wp_append_run rfl (.tmp 5) (.tmp 6) 39 rfl _ _ _ rfl rfl hrun ?_)
  clear hrun;go_wp2_with fail
  go_loopw [3,4] (fun o k wr=>∃q:Nat,q≤8∧k=.int .i64 q∧wr.ownsRow w.heap.size 5 1 o (L+q) (bM (dF c L) (L+q))∧Below w.heap.size w wr) (fun _ k _=>8-(intOf k).toNat)
  case atStart=>exact ⟨0,by omega,rfl,O1.out,Below.refl _ _⟩
  case round=>
   clear O1
   obtain⟨q,hq,rfl,hown,hB⟩:=hrel
   have hsz:=hB.size;have HO:=hid hown;have HLA:=hid (wj c L q);by_cases hlt:q<8
   ·have hi1:(q:Int)<8:=(by omega);clear hown;go_wp2_with(at_builtin;refine wpList_append_own_at _ rfl (.tmp 12) (.tmp 13) 39 rfl w.heap.size 5 i (.int .u8 0) 1 1 Tryz.underlying39 hi hz0 hz1 hz2 rfl (by decide) _ _ _ rfl (HO.out.alloc _) ⟨_,0,none⟩ 1 1 [.int .u8 252] rfl rfl (cell_one_new _ _ _) ?c2 (by unfold maxLen;omega) (by omega) (by simp;omega) ?_)
    case c2=>intro u hu;simp at hu;subst hu;rfl
    intro v' w1 hown' hgrow _ hat;have hB1:=(hB.alloc hsz (.cells #[.int .u8 252] 5)).grown hgrow (by simp;omega) (fun k hk=>(HO.out.lt k hk).1);have HO1:Hid (w1.ownsRow w.heap.size 5 1 v' (L+(q+1)) (bM (dF c L) (L+(q+1)))):=by
     show w1.ownsRow w.heap.size 5 1 v' (L+(q+1)) (bM (dF c L) (L+(q+1)));rw[←HLA.out];exact hown'
    clear hown' hgrow hat;go_wp2;go_roundw
    case rel=>exact ⟨q+1,by omega,by go_num,HO1.out,hB1⟩
    case measure=>simp [intOf];omega
   ·have e:q=8:=(by omega);subst e
    obtain⟨g,cap,hv⟩:=aB hown (by omega)
    subst hv;clear HO;go_wp2;go_ret
    exact⟨g,cap,rfl,hown,hB⟩
 |full cb co cap hv C=>
  subst hv;have hcell:Hid (∀j u,(bM c L)[j]?=some u→w.cell? ((⟨cb,co,none⟩:Addr).add j)=some u):=by
   intro j u hu;have hj:j<L:=by have:=(List.getElem?_eq_some_iff.1 hu).1;rw[j5]at this;exact this
   rw[j6 c hj]at hu;have ea:(⟨cb,co,none⟩:Addr).add j=⟨cb,co+j,none⟩:=by
    by_cases e:j=0
    ·subst e;simp[Addr.add]
    ·simp[Addr.add,e]
   rw[ea,C.cell j hj];exact hu
  have hone:=qK c L;have hlen:=j5 c L;generalize bM c L=bl at*;go_wp2_with(at_builtin;refine wpList_append_own_at _ rfl (.tmp 5) (.tmp 6) 39 rfl w.heap.size 5 i (.int .u8 0) 1 1 Tryz.underlying39 hi hz0 hz1 hz2 rfl (by decide) _ 0 [] rfl (World.ownsRow_nil _ _ _ _) ⟨cb,co,none⟩ L cap bl rfl (by omega) hcell.out hone (by unfold maxLen;omega) (by omega) (Nat.le_refl _) ?_)
  intro v1 w1 hown1 hgrow1 _ _;have B1:=(Below.refl w.heap.size w).grown hgrow1 (Nat.le_refl _) (fun k hk=>by cases hk);have O1:Hid (w1.ownsRow w.heap.size 5 1 v1 (L+0) (bM (dF c L) (L+0))):=key.out _ _ (by simpa using hown1) B1;clear hown1 hgrow1;go_wp2_with fail
  go_loopw [3,4] (fun o k wr=>∃q:Nat,q≤8∧k=.int .i64 q∧wr.ownsRow w.heap.size 5 1 o (L+q) (bM (dF c L) (L+q))∧Below w.heap.size w wr) (fun _ k _=>8-(intOf k).toNat)
  case atStart=>exact ⟨0,by omega,rfl,O1.out,B1⟩
  case round=>
   clear O1
   obtain⟨q,hq,rfl,hown,hB⟩:=hrel
   have hsz:=hB.size;have HO:=hid hown;have HLA:=hid (wj c L q);by_cases hlt:q<8
   ·have hi1:(q:Int)<8:=(by omega);clear hown;go_wp2_with(at_builtin;refine wpList_append_own_at _ rfl (.tmp 12) (.tmp 13) 39 rfl w.heap.size 5 i (.int .u8 0) 1 1 Tryz.underlying39 hi hz0 hz1 hz2 rfl (by decide) _ _ _ rfl (HO.out.alloc _) ⟨_,0,none⟩ 1 1 [.int .u8 252] rfl rfl (cell_one_new _ _ _) ?c2 (by unfold maxLen;omega) (by omega) (by simp;omega) ?_)
    case c2=>intro u hu;simp at hu;subst hu;rfl
    intro v' w1 hown' hgrow _ hat;have hB1:=(hB.alloc hsz (.cells #[.int .u8 252] 5)).grown hgrow (by simp;omega) (fun k hk=>(HO.out.lt k hk).1);have HO1:Hid (w1.ownsRow w.heap.size 5 1 v' (L+(q+1)) (bM (dF c L) (L+(q+1)))):=by
     show w1.ownsRow w.heap.size 5 1 v' (L+(q+1)) (bM (dF c L) (L+(q+1)));rw[←HLA.out];exact hown'
    clear hown' hgrow hat;go_wp2;go_roundw
    case rel=>exact ⟨q+1,by omega,by go_num,HO1.out,hB1⟩
    case measure=>simp [intOf];omega
   ·have e:q=8:=(by omega);subst e
    obtain⟨g,cap,hv⟩:=aB hown (by omega)
    subst hv;clear HO;go_wp2;go_ret
    exact⟨g,cap,rfl,hown,hB⟩
theorem I2 {R:ByteArray→Sh}{h:HS}{s:ByteArray}(h1:(R s).kind≠1)(h2:(R s).kind≠2)(h3:30≤h.kept.length∨jo h.kept (R s).aV=false):aD R h s=({h with tries:=h.tries+1},0):=by unfold aD;rw[if_neg h1,if_neg h2,if_pos h3]
theorem I3 {R:ByteArray→Sh}{h:HS}{s:ByteArray}(h1:(R s).kind≠1)(h2:(R s).kind≠2)(h3:h.kept.length<30)(h4:jo h.kept (R s).aV=true):aD R h s=({h with tries:=h.tries+1,kept:=h.kept++[⟨s,(R s).aV⟩],az:=h.az++[(true,s)]},113):=by
 unfold aD;rw[if_neg h1,if_neg h2,if_neg (fun c=>c.elim (fun e=>by omega) (fun e=>by rw[h4]at e;cases e))]
structure DL (w W7:World) (U:Nat→Prop) (Y gc:Nat) (g:PG) (h:HS) (k:dQ) (d1:DD):Prop where
 fr:Fr U w W7
 bits:lG W7 (Gr U w W7) Y d1 g (h.kept++[k]) h.worked (kE {h with kept:=h.kept++[k]}) 0 W7
 val:∀j,j<75→j≠3→d1.F j=ja d1 g h j
 x4:d1.X 4=bH h.found
 aV:∀p,p<64→W7.cell? ⟨gc,p,none⟩=some (.int .u8 (k.aV p))
 ne:gc≠Y
section
variable {w W:World} {U:Nat→Prop} {Y:Nat} {d:DD} {g:PG} {h:HS} {ob gc:Nat} {s:ByteArray}
theorem DT.KV (t:DT w W U Y g h ob gc s d)(hwk:h.worked h.kept.length=false):∀v' w6,w6.ownsRow 0 149 3 v' (h.kept.length+1) (d.X 3++[.string s,.slice (some ⟨gc,0,none⟩) 64 64,.bool false])→(W.alloc (.cells #[.string s,.slice (some ⟨gc,0,none⟩) 64 64,.bool false] 149)).grownBy w6 (d.F 3).ownBlock→(v'.ownBlock=(d.F 3).ownBlock∨v'.ownBlock=some (W.alloc (.cells #[.string s,.slice (some ⟨gc,0,none⟩) 64 64,.bool false] 149)).heap.size)→
  (w6.cell? ⟨Y,3,none⟩=some (d.F 3)∧w6.frozen? ⟨Y,3,none⟩=false∧Y<w6.heap.size)∧∃d1,DL w (w6.setCell ⟨Y,3,none⟩ v') U Y gc g h ⟨s,(g.R s).aV⟩ d1:=by
 intro v' w6 ho hg hat;have b2:Below W.heap.size W (W.alloc (.cells #[.string s,.slice (some ⟨gc,0,none⟩) 64 64,.bool false] 149)):=(Below.refl _ _).alloc (Nat.le_refl _) _;have p2:=t.du.gr b2;have hne:some Y≠(d.F 3).ownBlock:=fun e=>t.du.ob.nM 3 rfl e.symm
 have hz:(w6.setCell ⟨Y,3,none⟩ v').heap.size=w6.heap.size:=World.size_setCell _ _ _;have hlx:(d.X 3).length=h.kept.length*3:=(t.du.ob.own 3 rfl).1;have hgl:=t.du.dk.lt _ t.Lu;have hgY:gc≠Y:=fun c=>t.Lv (Or.inl c)
 have hgr:(d.F 3).ownBlock≠some gc:=fun c=>t.Lv (Or.inr ⟨3,rfl,c⟩)
 have hcv:∀p,p<64→(w6.setCell ⟨Y,3,none⟩ v').cell? ⟨gc,p,none⟩=some (.int .u8 ((g.R s).aV p)):=fun p hp=>
  (World.cell?_of_block (w:=W) (a:=⟨gc,p,none⟩) ((heap_setCell_other w6 ⟨Y,3,none⟩ gc v' hgY).trans ((hg.block gc (by have:=b2.size;omega) (fun c=>hgr c.symm)).trans (b2.block gc hgl)))).trans (t.aV p hp)
 have hn:kE {h with kept:=h.kept++[⟨s,(g.R s).aV⟩]}=upd (kE h) 3 (kE h 3+1):=by
  funext r
  unfold upd kE;by_cases e3:r=3
  ·subst e3;simp
  ·simp[e3]
 have e1:Gr (Gr (Gr U w W) W (W.alloc (.cells #[.string s,.slice (some ⟨gc,0,none⟩) 64 64,.bool false] 149))) (W.alloc (.cells #[.string s,.slice (some ⟨gc,0,none⟩) 64 64,.bool false] 149)) w6=Gr U w (w6.setCell ⟨Y,3,none⟩ v'):=by
  rw[mK b2.size hg.size,mK t.fr.size (Nat.le_trans b2.size hg.size),fR hz]
 have o7:=p2.ob.grow 3 rfl v' _ 1 hg ho hat;have k7:=p2.dk.grow p2.ob rfl v' [.string s,.slice (some ⟨gc,0,none⟩) 64 64,.bool false] hg hat (fun k e=>aL ho e);rw[e1]at k7;have fr:=t.fr.trans (((Fr.below b2).same (Fr.grown hg (fun k e=>t.du.dk.dR k (Or.inr ⟨3,rfl,e⟩)))).same (Fr.set (t.du.dk.dR _ (Or.inl rfl)) 3 v'))
 refine⟨⟨hg.cell (a:=⟨Y,3,none⟩) (p2.ob.cell 3 (by decide)) hne,?_,Nat.lt_of_lt_of_le p2.ob.lt hg.size⟩,{d with F:=upd d.F 3 v',X:=upd d.X 3 (d.X 3++[.string s,.slice (some ⟨gc,0,none⟩) 64 64,.bool false])},fr,⟨⟨upd d.F 3 v',by rw[hn];exact o7,k7.add ⟨s,(g.R s).aV⟩ ⟨?_,?_,gc,?_,hcv,?_,?_⟩,fun j=>by rw[if_neg (by omega)]⟩,Fr.refl _ _,rfl⟩,?_,t.du.x4,hcv,hgY⟩
 ·rw[World.frozen?_of_block (w:=W.alloc _) (a:=⟨Y,3,none⟩) (hg.block Y p2.ob.lt hne)];exact p2.ob.thaw 3
 ·dsimp only;rw[upd_same,List.getElem?_append_right (by omega),hlx,Nat.sub_self];rfl
 ·dsimp only;rw[upd_same,List.getElem?_append_right (by omega),hlx,Nat.add_sub_cancel_left,hwk];rfl
 ·dsimp only;rw[upd_same,List.getElem?_append_right (by omega),hlx,Nat.add_sub_cancel_left];rfl
 ·intro c;rcases iB.grow (w:=W.alloc _) hat rfl c with e|e
  ·exact t.Lv e
  ·have:=b2.size;omega
 ·have:Gr U w W gc:=t.Lu
  exact this.elim Or.inl (fun c=>Or.inr ⟨c.1,by have:=c.2;have:=b2.size;have:=hg.size;omega⟩)
 ·intro j hj h3
  have:=t.du.val j hj
  show upd d.F 3 v' j=_;rw[au _ _ h3,this];unfold ja;simp only[if_neg h3];by_cases h4:j=4
  ·subst h4;rfl
  ·simp only[if_neg h4]
theorem DL.done {k:dQ}{d1:DD}{W7 wr:World}(l:DL w W7 U Y gc g h k d1)(b:lG W7 (Gr U w W7) Y d1 g (h.kept++[k]) h.worked (kE {h with kept:=h.kept++[k]}) 64 wr):bu U Y g {h with kept:=h.kept++[k]} w wr:=by
 obtain⟨F,o,q,e⟩:=b.ex
 refine⟨l.fr.trans b.fr,{d1 with F:=F},?_⟩
 rw[fR b.sz]
 refine⟨o,fun j hj=> ?_,l.x4,q⟩
 show F j=_;by_cases h3:j=3
 ·subst h3;rfl
 by_cases h4:j=4
 ·subst h4;rfl
 rw[e j];by_cases c:5≤j∧j<5+64
 ·rw[if_pos c];unfold ja;simp only[if_neg h3,if_neg h4,if_neg (show ¬j=0 by omega),if_neg (show ¬j=1 by omega),if_neg (show ¬j=2 by omega),if_neg (show ¬j=69 by omega),if_neg (show ¬j=70 by omega),if_neg (show ¬j=71 by omega),if_neg (show ¬j=72 by omega),if_neg (show ¬j=73 by omega),if_neg (show ¬j=74 by omega)]
 ·rw[if_neg c,l.val j hj h3];unfold ja;simp only[if_neg h3,if_neg h4];by_cases a0:j=0
  ·subst a0;rfl
  by_cases a1:j=1
  ·subst a1;rfl
  by_cases a2:j=2
  ·subst a2;rfl
  by_cases a3:j=69
  ·subst a3;rfl
  by_cases a4:j=70
  ·subst a4;rfl
  by_cases a5:j=71
  ·subst a5;rfl
  by_cases a6:j=72
  ·subst a6;rfl
  by_cases a7:j=73
  ·subst a7;rfl
  by_cases a8:j=74
  ·subst a8;rfl
  omega
theorem lG.at {V:Nat→Prop}{W7:World}{d1:DD}{kept:List dQ}{wk:Nat→Bool}{N:Nat→Nat}{k:Nat}{wr:World}(b:lG W7 V Y d1 g kept wk N k wr)(j:Nat)(hj:j<75)(hk:¬(5≤j∧j<5+k)):wr.cell? ⟨Y,j,none⟩=some (d1.F j)∧wr.frozen? ⟨Y,j,none⟩=false∧Y<wr.heap.size:=by
 obtain⟨F,o,q,e⟩:=b.ex
 exact⟨(o.cell j hj).trans (by rw[e j,if_neg hk]),o.thaw j,o.lt⟩
end
theorem BK.other {base M:Nat}{w w':World}{F:Nat→Value}{X:Nat→List Value}(h:BK base M w F X){g:Nat}(hg:w.grownBy w' (some g))(ho:rX M F g):BK base M w' F X where
 cell:=fun r hr=>hg.cell (a:=⟨M,r,none⟩) (h.cell r hr) (fun c=>by injection c with c;exact ho.1 c.symm)
 thaw:=fun j=>by rw[World.frozen?_of_block (w:=w) (a:=⟨M,j,none⟩) (hg.block M (Nat.lt_of_lt_of_le h.lt h.le) (fun c=>by injection c with c;exact ho.1 c.symm))];exact h.thaw j
 own:=fun r hr=>(h.own r hr).kept hg (Or.inr (ho.2 r hr))
 apart:=h.apart
 lt:=h.lt
 le:=Nat.le_trans h.le hg.size
theorem BD.other {M:Nat}{w w':World}{F:Nat→Value}{X:Nat→List Value}(d:BD M w F X){g:Nat}(hg:w.grownBy w' (some g))(hnew:∀u,Rec X u→u.ownBlock≠some g):BD M w' F X:=
 d.keep hg.size (fun _ _ h=>h) (fun v k hv hk hl _=>hg.block k hl (fun c=>hnew v hv (by rw[hk,c])))
def dK (kept:List dQ)(p:Nat)(b:Int)(l:List Nat):Nat→Int
 |0=> -1
 |n+1=>if bg kept p b n then(if l.contains n then -2 else
   if dK kept p b l n= -1∨(0≤dK kept p b l n∧iz kept n<iz kept (dK kept p b l n).toNat)then(n:Int)else dK kept p b l n)else dK kept p b l n
theorem AQ (kept:List dQ)(p:Nat)(b:Int)(l:List Nat):∀n,dK kept p b l n=if(List.range n).any (fun m=>bg kept p b m&&l.contains m)then -2 else match bF kept (bg kept p b) n with
  |none=> -1
  |some x=>(x:Int)
 |0=>rfl
 |n+1=>by
  have ih:=AQ kept p b l n;unfold dK bF;rw[List.range_succ,List.any_append];generalize dK kept p b l n=x at ih⊢
  cases hk:bg kept p b n with
  |false=>
   simp only[Bool.false_and,List.any_cons,List.any_nil,Bool.or_false,hk];rw[ih]
   cases(List.range n).any (fun m=>bg kept p b m&&l.contains m)with
   |true=>rfl
   |false=>cases bF kept (bg kept p b) n<;>rfl
  |true=>
   cases hc:l.contains n with
   |true=>simp only[hk,hc,List.any_cons,List.any_nil,Bool.and_self,Bool.or_true,Bool.or_false,if_true]
   |false=>
    simp only[if_true,Bool.false_eq_true,if_false,List.any_cons,List.any_nil,Bool.or_false,hk,hc,Bool.and_false]
    cases ha:(List.range n).any (fun m=>bg kept p b m&&l.contains m)with
    |true=>
     rw[ha]at ih;rw[ih]
     simp
    |false=>
     rw[ha]at ih
     cases hs:bF kept (bg kept p b) n with
     |none=>rw [hs]at ih;rw[ih];simp
     |some y=>
      rw[hs]at ih;have ih':=ih;subst ih';simp only[Bool.true_and,Bool.false_eq_true,if_false,Int.toNat_natCast];by_cases hl:iz kept n<iz kept y
      ·rw[if_pos (Or.inr ⟨by omega,hl⟩),if_pos (by simpa using hl)]
      ·rw[if_neg (fun c=>c.elim (fun e=>by omega) (fun e=>hl e.2)),if_neg (by simpa using hl)]
theorem Ff {kept:List dQ}{p:Nat}{b:Int}{m:Nat}(h:bg kept p b m=true):m<kept.length:=by
 by_cases c:m<kept.length
 ·exact c
 ·unfold bg hasB at h;rw[List.getElem?_eq_none (by omega)]at h;simp at h;exact absurd h.1.symm h.2
theorem Fg (kept:List dQ)(p:Nat)(b:Int)(l:List Nat):gP kept p b l=if 0≤dK kept p b l kept.length then l++[(dK kept p b l kept.length).toNat]else l:=by
 rw[AQ];unfold gP;have e:(List.range kept.length).any (fun m=>bg kept p b m&&l.contains m)=l.any (bg kept p b):=by
  rw[Bool.eq_iff_iff,List.any_eq_true,List.any_eq_true];constructor
  ·rintro⟨m,_,h⟩
   simp only[Bool.and_eq_true]at h
   exact⟨m,List.contains_iff_mem.1 h.2,h.1⟩
  ·rintro⟨m,hm,h⟩
   exact⟨m,List.mem_range.2 (Ff h),by simp only[Bool.and_eq_true];exact⟨h,List.contains_iff_mem.2 hm⟩⟩
 rw[e]
 cases l.any (bg kept p b)with
 |true=>rfl
 |false=>
  simp only[Bool.false_eq_true,if_false]
  cases bF kept (bg kept p b) kept.length with
  |none=>rfl
  |some y=>simp
theorem qc (a b:Nat)(ha:a<256)(hb:b<256):bits .and .u8 (a:Int) (b:Int)=((a&&&b:Nat):Int):=by
 have hx:a&&&b<2^8:=Nat.and_lt_two_pow _ (by omega);have h1:(BitVec.ofInt 8 (a:Int)).toNat=a:=by
  rw[BitVec.ofInt_natCast,BitVec.toNat_ofNat];exact Nat.mod_eq_of_lt (by omega)
 have h2:(BitVec.ofInt 8 (b:Int)).toNat=b:=by
  rw[BitVec.ofInt_natCast,BitVec.toNat_ofNat];exact Nat.mod_eq_of_lt (by omega)
 show IntKind.u8.wrap ((BitVec.ofInt 8 (a:Int)&&&BitVec.ofInt 8 (b:Int)).toNat:Int)=_;rw[BitVec.toNat_and,h1,h2,IntKind.wrap_u8];omega
theorem zD (kept:List dQ)(p j:Nat)(hj:j<8)(l:List Nat)(hl:∀k∈kept,jl (k.aV p))(h:bits .and .u8 (aS kept p:Nat) (eA j)=0):gP kept p (eA j) l=l:=by
 have hno:∀m,bg kept p (eA j) m=false:=fun m=>by
  cases c:bg kept p (eA j) m with
  |false=>rfl
  |true=>
   exfalso;have hm:=Ff c;unfold bg at c;rw[List.getElem?_eq_getElem hm]at c;simp only[Option.map_some,Option.getD_some,hasB,Bool.and_eq_true,decide_eq_true_eq]at c;have h2:(eA j).toNat<256:=by have:=(nH hj).bd;omega
   have h3:((eA j).toNat:Int)=eA j:=by have:=(nH hj).bd;omega
   rw[←h3,qc _ _ (qi kept p hl) h2]at h;have h4:(aS kept p&&&(eA j).toNat).testBit j=true:=by
    rw[Nat.testBit_and,sV,jV hj];simp only[decide_true,Bool.and_true];exact List.any_eq_true.2 ⟨kept[m],List.getElem_mem hm,by rw[c.1,jV hj];simp⟩
   rw[show aS kept p&&&(eA j).toNat=0 by omega]at h4;simp at h4
 unfold gP;have e1:l.any (bg kept p (eA j))=false:=by rw[List.any_eq_false];intro m _;rw[hno];simp
 rw[e1];have e2:bF kept (bg kept p (eA j)) kept.length=none:=by
  cases hs:bF kept (bg kept p (eA j)) kept.length with
  |none=>rfl
  |some y=>have:=(gY _ _ _ _ hs).2;rw[hno]at this;cases this
 rw[e2];rfl
theorem Ie (j:Nat)(hj:j<8):IntKind.u8.wrap (2^j)=eA j:=by
 have:∀j:Fin 8,IntKind.u8.wrap (2^(j:Nat))=eA (j:Nat):=by decide
 exact this ⟨j,hj⟩
theorem CY (ch:List Nat)(k:Nat):((List.range (k+1)).filter fun n=>ch.contains n)=((List.range k).filter fun n=>ch.contains n)++(if ch.contains k then[k]else[]):=by
 rw[List.range_succ,List.filter_append]
 cases h:ch.contains k with
 |true=>simp only[List.filter_cons,List.filter_nil,h,if_true]
 |false=>simp only[List.filter_cons,List.filter_nil,h,Bool.false_eq_true,if_false]
def nW (l:List Nat):List Value:=l.map fun k=>.int .i64 (k:Nat)
theorem xy {base:Nat}(w:World)(v:Value)(l:List Nat)(h:w.ownsRow base 3 1 v l.length (nW l))(x:Nat)(hl:l.length≤1000):Calls Tryz.prog 96 #[v,.int .i64 (x:Nat)] w fun e w'=>e=.returned (.bool (l.contains x))∧w'=w:=by
 rcases aO h with⟨rfl,hn⟩|⟨b,cap,rfl,hb,hcap,hnc,hc⟩
 ·obtain rfl:l=[]:=List.eq_nil_of_length_eq_zero hn;go_in;go_wp2;go_loop [5] (fun i=>i=.int .i64 0) (fun _=>0)
  case atStart=>rfl
  case round=>
   subst hrel;go_wp2;go_ret
   exact⟨rfl,rfl⟩
 ·have:=vK w b cap l.length (fun i=>((l.getD i 0:Nat):Int)) (x:Int) hl (fun i hi=>hc i _ (by simp[nW,List.getElem?_map,List.getElem?_eq_getElem hi,List.getD_eq_getElem?_getD]))
  have e:((List.range l.length).any fun i=>((l.getD i 0:Nat):Int)==(x:Int))=l.contains x:=by
   rw[Bool.eq_iff_iff,List.any_eq_true,List.contains_iff_mem];constructor
   ·rintro⟨i,hi,e⟩
    have hi':=List.mem_range.1 hi;rw[List.getD_eq_getElem?_getD,List.getElem?_eq_getElem hi']at e
    have:l[i]=x:=by simp at e;omega
    rw[←this];exact List.getElem_mem hi'
   ·intro hx
    obtain⟨i,hi,e⟩:=List.getElem_of_mem hx
    exact⟨i,List.mem_range.2 hi,by rw[List.getD_eq_getElem?_getD,List.getElem?_eq_getElem hi,e];simp⟩
  rw[e]at this;exact this
theorem Fh {kept:List dQ}{n:Nat}(h:n<kept.length):iz kept n=(kept.getD n fV).text.size:=by
 unfold iz;rw[List.getD_eq_getElem?_getD,List.getElem?_eq_getElem h];rfl
theorem Kc {kept:List dQ}{p n:Nat}{b:Int}(h:n<kept.length):bg kept p b n=hasB ((kept.getD n fV).aV p) b:=by
 unfold bg;rw[List.getD_eq_getElem?_getD,List.getElem?_eq_getElem h];rfl
theorem uN (kept:List dQ)(p:Nat)(b:Int)(l:List Nat):∀n,-2≤dK kept p b l n∧dK kept p b l n<n∨dK kept p b l n= -1
 |0=>Or.inr rfl
 |n+1=>by
  have ih:=uN kept p b l n;unfold dK;repeat' split
  all_goals omega
section
variable {w:World} {U:Nat→Prop} {Y:Nat} {d:DD} {g:PG} {h:HS}
theorem DU.entry (p:DU w U Y d g h)(k:Nat)(hk:k<h.kept.length):∃b cap gk,d.F 3=.slice (some ⟨b,0,none⟩) h.kept.length cap∧h.kept.length≤cap∧b<w.heap.size∧w.cell? ⟨b,k*3,none⟩=some (.string (h.kept.getD k fV).text)∧w.cell? ⟨b,k*3+1,none⟩=some (.slice (some ⟨gk,0,none⟩) 64 64)∧w.cell? ⟨b,k*3+2,none⟩=some (.bool (h.worked k))∧gk<w.heap.size∧∀q,q<64→w.cell? ⟨gk,q,none⟩=some (.int .u8 ((h.kept.getD k fV).aV q)):=by
 obtain⟨h1,h2,gk,h3,h4,h5,h6⟩:=p.dk.kept k _ (List.getElem?_eq_getElem hk)
 have e:h.kept.getD k fV=h.kept[k]:=by rw[List.getD_eq_getElem?_getD,List.getElem?_eq_getElem hk];rfl
 have ho:=p.ob.own 3 rfl;rcases aO ho with⟨hv,hn⟩|⟨b,cap,hv,hb,hcap,hnc,hc⟩
 ·have:h.kept.length=0:=hn
  omega
 ·rw[e]
  exact⟨b,cap,gk,hv,hnc,hb,hc _ _ h1,hc _ _ h3,hc _ _ h2,p.dk.lt _ h6,h4⟩
theorem DU.head (p:DU w U Y d g h):∃ao cap,d.F 3=.slice ao h.kept.length cap:=by
 obtain⟨ao,cap,hv,_⟩:=JU (p.ob.own 3 rfl)
 exact⟨ao,cap,hv⟩
theorem DU.seen (p:DU w U Y d g h)(q:Nat)(hq:q<64):w.cell? ⟨Y,5+q,none⟩=some (.int .u8 (aS h.kept q:Nat)):=by
 rw[p.cell (5+q) (by omega)];unfold ja;simp only[if_neg (show ¬5+q=3 by omega),if_neg (show ¬5+q=4 by omega),if_neg (show ¬5+q=0 by omega),if_neg (show ¬5+q=1 by omega),if_neg (show ¬5+q=2 by omega),if_neg (show ¬5+q=69 by omega),if_neg (show ¬5+q=70 by omega),if_neg (show ¬5+q=71 by omega),if_neg (show ¬5+q=72 by omega),if_neg (show ¬5+q=73 by omega),if_neg (show ¬5+q=74 by omega),Nat.add_sub_cancel_left]
end
end Go.Proofs.YtmpgjkhchfcjlaaGreatDoor
