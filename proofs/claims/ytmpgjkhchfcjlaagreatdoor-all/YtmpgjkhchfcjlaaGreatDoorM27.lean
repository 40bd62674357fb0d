import Derived.Test.YtmpgjkhchfcjlaaGreatDoorM23
import Derived.Deep.RegionHeld3
import Derived.Deep.DeepFit
namespace Go.Proofs.YtmpgjkhchfcjlaaGreatDoor
open Go.RowKit
set_option maxRecDepth 100000
set_option maxHeartbeats 4000000
theorem r5.head {w:World}{v:Value}{G:Nat→Nat}{l:List dQ}(h:r5 w v G l):∃ao cap,v=.slice ao l.length cap∧l.length≤9223372036854775807:=by
 rcases h.form with⟨rfl,rfl⟩|⟨b,cap,rfl,_,hn,_⟩
 ·exact⟨none,0,rfl,by simp⟩
 ·exact⟨_,_,rfl,hn⟩
theorem iO (w:World)(H:Nat)(v:Value)(G:Nat→Nat)(l:List dQ)(c7:w.cell? ⟨H,7,none⟩=some v)(K:r5 w v G l):
  Calls Tryz.prog 85 #[.pointer (some ⟨H,7,none⟩)] w fun e w'=>e=.returned (.int .i64 (l.length:Nat))∧w'=w:=by
 obtain⟨ao,cap,rfl,hn⟩:=K.head
 clear K;generalize l.length=n at*;go_in;go_wp2;go_ret
 exact⟨rfl,rfl⟩
theorem jX (w:World)(H:Nat)(v:Value)(G:Nat→Nat)(l:List dQ)(c7:w.cell? ⟨H,7,none⟩=some v)(K:r5 w v G l)(n:Nat)(hn:n<l.length):
  Calls Tryz.prog 128 #[.pointer (some ⟨H,7,none⟩),.int .i64 (n:Nat)] w fun e w'=>e=.returned (.agg #[.string (l.getD n fV).text,.slice (some ⟨G n,0,none⟩) 64 64])∧Below w.heap.size w w':=by
 rcases K.form with⟨rfl,rfl⟩|⟨b,cap,rfl,hb,hm,_,_,h0,h1⟩
 ·simp at hn
 ·have c0:=h0 n hn;have c1:=h1 n hn;have hn':(n:Int)<(l.length:Int):=by omega
  have hH:=World.block_lt_of_cell? w ⟨H,7,none⟩ c7;clear K h0 h1;generalize l.length=m at*
  generalize(l.getD n fV).text=t at*
  generalize G n=gn at*;go_in;go_wp2;refine bodyPost_ret (v:=.agg #[.string t,.slice (some ⟨gn,0,none⟩) 64 64]) ?_ rfl ⟨rfl,?_⟩
  ·simp[results,Tryz.results128,go_sem]
  ·exact(Below.refl _ _).alloc (Nat.le_refl _) _
theorem Cy {w:World}{U:Nat→Prop}{d:HD}{g:PG}{h:HS}(p:HU w U d g h)(t:ByteArray)(aV:Nat→Int)(cg:Nat)(hcg:∀p,p<64→w.cell? ⟨cg,p,none⟩=some (.int .u8 (aV p)))(hcu:U cg)(hcw:¬d.Wr cg)(hn:h.kept.length≤1000000):
  Calls Tryz.prog 170 #[.pointer (some ⟨d.H,7,none⟩),.agg #[.string t,.slice (some ⟨cg,0,none⟩) 64 64]] w fun e w'=>e=.returned (.tuple #[])∧aA U d.H g {h with kept:=h.kept++[⟨t,aV⟩]} w w':=by
 obtain⟨i,hi,hz0,hz1,hz2⟩:=bB JM
 have c0:w.cell? ⟨d.H,7,none⟩=some d.vk:=p.cell 7 (by omega);have f0:=p.thaw 7;have hH:d.H<w.heap.size:=p.lt _ (p.dR _ (Or.inl rfl));have hne:some d.H≠d.vk.ownBlock:=fun c=>(p.nk _ c.symm).1 rfl
 have b2:Below w.heap.size w ((w.alloc (.cells #[.string t,.slice (some ⟨cg,0,none⟩) 64 64] 147)).alloc (.cells #[.string t,.slice (some ⟨cg,0,none⟩) 64 64] 147)):=((Below.refl _ _).alloc (Nat.le_refl _) _).alloc (by simp) _;have p2:=p.gr b2;have HF:Hid (∀v' w6,w6.ownsRow 0 147 2 v' (h.kept.length+1) (d.xk++[.string t,.slice (some ⟨cg,0,none⟩) 64 64])→((w.alloc (.cells #[.string t,.slice (some ⟨cg,0,none⟩) 64 64] 147)).alloc (.cells #[.string t,.slice (some ⟨cg,0,none⟩) 64 64] 147)).grownBy w6 d.vk.ownBlock→(v'.ownBlock=d.vk.ownBlock∨v'.ownBlock=some ((w.alloc (.cells #[.string t,.slice (some ⟨cg,0,none⟩) 64 64] 147)).alloc (.cells #[.string t,.slice (some ⟨cg,0,none⟩) 64 64] 147)).heap.size)→
   (w6.cell? ⟨d.H,7,none⟩=some d.vk∧w6.frozen? ⟨d.H,7,none⟩=false)∧aA U d.H g {h with kept:=h.kept++[⟨t,aV⟩]} w (w6.setCell ⟨d.H,7,none⟩ v')):=by
  intro v' w6 ho hg hat
  refine⟨mZ p2 hg hne 7 (by omega),?_,{d with vk:=v',xk:=d.xk++[.string t,.slice (some ⟨cg,0,none⟩) 64 64]},rfl,?_⟩
  ·exact((Fr.below b2).same (Fr.grown hg (fun k e=>p.dR k (Or.inr (Or.inl e))))).same (Fr.set (p.dR _ (Or.inl rfl)) 7 v')
  ·have:=p2.KE t aV cg (fun q hq=>(b2.cell (p:=⟨cg,q,none⟩) (p.lt _ hcu)).trans (hcg q hq)) (Or.inl hcu) hcw v' hg ho hat
   rw[mK b2.size hg.size]at this;rw[fR (World.size_setCell w6 _ _)];exact this
 have hrk:=p2.rk;clear p p2 b2 hcg hcu hcw;go_in;go_wp2_with fail
 go_region_law(refine fQ rfl (.tmp 8) (.tmp 10) 129 rfl 0 147 i _ 2 40 Tryz.underlying129 hi hz0 hz1 hz2 rfl (by decide) d.vk h.kept.length d.xk (by simp[Act.eval]) (ay hrk (fun _ _=>rfl)) ⟨w.heap.size+1,0,none⟩ 1 1 [.string t,.slice (some ⟨cg,0,none⟩) 64 64] (by simp[Act.eval]) rfl (gZ (w.alloc (.cells #[.string t,.slice (some ⟨cg,0,none⟩) 64 64] 147)) [.string t,.slice (some ⟨cg,0,none⟩) 64 64] 147 (w.heap.size+1) (by simp)) (by intro u hu;simp at hu;rcases hu with rfl|rfl<;>rfl) (by unfold maxLen;omega) (by omega) (by omega) ?_;intro v6 w6 ho6 hg6 hat6;obtain⟨g6,k6,rfl⟩:=aB ho6 (by omega);obtain⟨⟨c6,f6⟩,hfin⟩:=HF.out _ w6 ho6 ⟨hg6.os,hg6.tape,hg6.output,hg6.size,hg6.block⟩ hat6;have HALL:Hid _:=hfin;clear ho6 hg6 hat6 hfin)
 all_goals
  go_wp2;go_end0
  exact⟨rfl,HALL.out⟩
def nP (h:HS)(t:ByteArray)(aV:Nat→Int):HS×Int:=if 30≤h.kept.length∨jo h.kept aV=false then(h,0)else({h with kept:=h.kept++[⟨t,aV⟩],az:=h.az++[(true,t)]},113)
theorem EF {w:World}{U:Nat→Prop}{d:HD}{g:PG}{h:HS}(p:HU w U d g h)(hl:∀k∈h.kept,∀q,jl (k.aV q))(t:ByteArray)(aV:Nat→Int)(hcov:∀q,jl (aV q))(cg:Nat)(hcg:∀p,p<64→w.cell? ⟨cg,p,none⟩=some (.int .u8 (aV p)))(hcu:U cg)(hcw:¬d.Wr cg)(hn:h.kept.length≤1000000)(hn2:h.az.length≤1000000):
  Calls Tryz.prog 122 #[.pointer (some ⟨d.H,0,none⟩),.agg #[.string t,.slice (some ⟨cg,0,none⟩) 64 64]] w fun e w'=>e=.returned (.int .u8 (nP h t aV).2)∧aA U d.H g (nP h t aV).1 w w':=by
 have B0:Below w.heap.size w (w.alloc (.cells #[.string t,.slice (some ⟨cg,0,none⟩) 64 64] 147)):=(Below.refl _ _).alloc (Nat.le_refl _) _;have p0:=p.gr B0;have hH:d.H<w.heap.size:=p.lt _ (p.dR _ (Or.inl rfl));have hz0:(w.alloc (.cells #[.string t,.slice (some ⟨cg,0,none⟩) 64 64] 147)).heap.size=w.heap.size+1:=by simp
 obtain⟨G,K⟩:=p0.I0
 have H1:Hid (Calls Tryz.prog 85 #[.pointer (some ⟨d.H,7,none⟩)] (w.alloc (.cells #[.string t,.slice (some ⟨cg,0,none⟩) 64 64] 147)) fun e w'=>e=.returned (.int .i64 (h.kept.length:Nat))∧w'=(w.alloc (.cells #[.string t,.slice (some ⟨cg,0,none⟩) 64 64] 147))):=iO _ _ _ G _ (p0.cell 7 (by omega)) K;have H2:Hid (Calls Tryz.prog 169 #[.pointer (some ⟨d.H,0,none⟩),.slice (some ⟨cg,0,none⟩) 64 64] (w.alloc (.cells #[.string t,.slice (some ⟨cg,0,none⟩) 64 64] 147)) fun e w'=>e=.returned (.bool (jo h.kept aV))∧Below (w.alloc (.cells #[.string t,.slice (some ⟨cg,0,none⟩) 64 64] 147)).heap.size (w.alloc (.cells #[.string t,.slice (some ⟨cg,0,none⟩) 64 64] 147)) w'):=
  Cx _ d.H _ G _ (p0.cell 7 (by omega)) (by rw[hz0];omega) K hl cg aV hcov (fun q hq=>(B0.cell (p:=⟨cg,q,none⟩) (p.lt _ hcu)).trans (hcg q hq))
 obtain⟨iu,hiu,hzu0,hzu1,hzu2⟩:=lB
 unfold nP;have HP:=hid p;have HB0:=hid B0;have HCG:Hid ((∀p,p<64→w.cell? ⟨cg,p,none⟩=some (.int .u8 (aV p)))∧U cg∧¬d.Wr cg):=⟨hcg,hcu,hcw⟩;clear p p0 K B0 hcg hcu hcw hl hcov;by_cases h30:30≤h.kept.length
 ·rw[if_pos (Or.inl h30)];generalize h.kept.length=nk at*;have hi30:(30:Int)≤(nk:Int):=by omega
  go_in;go_wp2_with fail
  refine H1.out.mono ?_;rintro e w1 ⟨rfl,hw⟩;obtain rfl:=hw.symm;go_wp2_with fail
  go_ret
  exact⟨rfl,aA.of HP.out HB0.out⟩
 ·have hi30:¬(30:Int)≤(h.kept.length:Int):=by omega
  cases hnew:jo h.kept aV with
  |false=>
   rw[if_pos (Or.inr rfl)];rw[hnew]at H2;generalize h.kept.length=nk at*;go_in;go_wp2_with fail
   refine H1.out.mono ?_;rintro e w1 ⟨rfl,hw⟩;obtain rfl:=hw.symm;go_wp2_with fail
   refine H2.out.mono ?_;rintro e w2 ⟨rfl,B2⟩;rw[hz0]at B2;go_wp2_with fail
   go_ret
   exact⟨rfl,aA.of HP.out (HB0.out.trans (B2.mono (by omega)))⟩
  |true=>
   rw[if_neg (fun c=>c.elim h30 (fun e=>by cases e))];rw[hnew]at H2;have HN:=hid hn;generalize hnk:h.kept.length=nk at H1 hi30 hn;have HNK:=hid hnk;clear hnk h30;go_in;go_wp2_with fail
   refine H1.out.mono ?_;rintro e w1 ⟨rfl,hw⟩;obtain rfl:=hw.symm;go_wp2_with fail
   refine H2.out.mono ?_;rintro e w2 ⟨rfl,B2⟩;rw[hz0]at B2;have B02:=HB0.out.trans (B2.mono (by omega));have hbk:w2.heap[w.heap.size]?=some (.cells #[.string t,.slice (some ⟨cg,0,none⟩) 64 64] 147 (0,0)):=(B2.block _ (by omega)).trans (heap_alloc_new w _);have i0:w2.cell? ⟨w.heap.size,0,none⟩=some (.string t):=cell_of_row _ _ _ _ _ _ hbk;have i1:w2.cell? ⟨w.heap.size,1,none⟩=some (.slice (some ⟨cg,0,none⟩) 64 64):=cell_of_row _ _ _ _ _ _ hbk;have B02d:=B02.drew;have HT1:Hid (aA U d.H g h w w2.drew):=aA.of HP.out B02d;have H3:Hid (Calls Tryz.prog 170 #[.pointer (some ⟨d.H,7,none⟩),.agg #[.string t,.slice (some ⟨cg,0,none⟩) 64 64]] w2.drew fun e w'=>e=.returned (.tuple #[])∧aA (Gr U w w2.drew) d.H g {h with kept:=h.kept++[⟨t,aV⟩]} w2.drew w'):=
    Cy (HP.out.gr B02d) t aV cg (fun q hq=>(B02d.cell (p:=⟨cg,q,none⟩) (HP.out.lt _ HCG.out.2.1)).trans (HCG.out.1 q hq)) (Or.inl HCG.out.2.1) HCG.out.2.2 HN.out
   clear B2 B02 B02d hbk H1 H2;go_wp2_with fail
   go_region_with(go_at_call 170;refine H3.out.mono ?_;rintro e w3 ⟨rfl,hT2⟩)
   obtain⟨fr2,d2,hd2,p2⟩:=hT2
   have HT2:Hid (aA U d.H g {h with kept:=h.kept++[⟨t,aV⟩]} w w3):=HT1.out.then ⟨fr2,d2,hd2,p2⟩;rw[mK HT1.out.fr.size fr2.size]at p2;have HC:Hid _:=wV p2 true t 113 rfl;have c9:w3.cell? ⟨d.H,9,none⟩=some d2.vc:=hd2▸p2.cell 9 (by omega);have hHl:d.H<w3.heap.size:=hd2▸p2.lt _ (p2.dR _ (Or.inl rfl));have hrc:=p2.rc;rw[hd2]at HC;clear fr2 p2 H3 HT1 hd2;go_wp2_with(at_builtin;refine wpList_append_own_at _ rfl (.tmp 26) (.tmp 27) 39 rfl 0 5 iu (.int .u8 0) 1 1 Tryz.underlying39 hiu hzu0 hzu1 hzu2 rfl (by decide) _ h.az.length _ rfl (hrc.alloc _) ⟨w3.heap.size,0,none⟩ 1 1 [.int .u8 113] rfl rfl (cell_one_new _ _ _) ?c2 (by unfold maxLen;omega) (by omega) (by omega) ?_)
   case c2=>first|rfl|(intro u hu;simp at hu;subst hu;rfl)
   intro v6 w6 ho6 hg6 _ hat6
   obtain⟨⟨c6,f6⟩,hfin⟩:=HC.out v6 w6 ho6 hg6 (by simpa using hat6)
   have HALL:Hid _:=HT2.out.then hfin
   obtain⟨g6,k6,rfl⟩:=aB ho6 (by omega)
   clear ho6 hg6 hat6 hfin HC hrc c9;go_wp2;go_ret
   exact⟨rfl,HALL.out⟩
structure oM (g:PG):Prop where
 vp:VP g.c g.L g.N
 wW:1≤g.fuel
 fuel1:g.fuel≤500
noncomputable def PG.R (g:PG):ByteArray→Sh:=qU g.c (cP (aT g.c g.N) g.L) g.fuel
theorem PG.mC (g:PG):sO g.R:=Em _ _ _
theorem uE (R:ByteArray→Sh)(h:HS)(s:ByteArray):aD R h s=if(R s).kind=1 then nO {h with tries:=h.tries+1} s (R s).fault (R s).place else if(R s).kind=2 then({h with tries:=h.tries+1,hangs:=h.hangs+1},0)else nP {h with tries:=h.tries+1} s (R s).aV:=by
 unfold aD nO nP;dsimp only
structure r8 (g:PG) (s:ByteArray) (w:World) (e:Ending) (w':World):Prop where
 dY:Below w.heap.size w w'
 Ks:∃(so:ByteArray) (st:Int) (gc:Nat),w.heap.size≤gc∧gc<w'.heap.size∧(∀p,p<64→w'.cell? ⟨gc,p,none⟩=some (.int .u8 ((g.R s).aV p)))∧e=.returned (.tuple #[.agg #[.int .i64 (g.R s).kind,.int .i64 (g.R s).fault,.int .i64 (g.R s).place,.string so,.int .i64 st],.slice (some ⟨gc,0,none⟩) 64 64])
theorem AD (cnt:Nat→Int)(p:Nat)(hp:p<64):(fU cnt 64).toArray[p]?=some (.int .u8 (dU (cnt p))):=by
 rw[List.getElem?_toArray];unfold fU;rw[List.getElem?_map,List.getElem?_range hp];simp[hp]
theorem JR (w:World)(cb L cap eb:Nat)(g:PG)(hg:oM g)(hL:g.L=L)(s:ByteArray)(hs:s.size≤24)(hT:bK w)(C:Laid w cb 0 L cap g.c)(he:w.heap[eb]?=some (.cells (il L (cP (aT g.c g.N) g.L)).toArray 3 (0,0))):
  Calls Tryz.prog 64 #[.slice (some ⟨cb,0,none⟩) L cap,.slice (some ⟨eb,0,none⟩) L L,.string s,.int .i64 g.fuel] w (r8 g s w):=by
 subst hL;have V:=hg.vp
 refine(Ag w cb 0 g.L cap eb 0 g.L g.c (cP (aT g.c g.N) g.L) _ s g.fuel hg.vp.good (fun p hp=>mO _ g.L p hp hg.vp.most) hs (by have:=hg.wW;omega) hg.fuel1 hT C.cell (fun i hi=> ?_) C.room).mono ?_
 ·rw[Nat.zero_add,cell_of_row w eb _ _ _ _ he,List.getElem?_toArray];exact jF g.L _ _ hi
 rintro e w3 ⟨n,τ,h1,h2,h3,B3,gg,hgg,hcov,rfl⟩;subst h1;have hR:g.R s=Hu (after g.c (cP (aT g.c g.N) g.L) g.fuel (jm s) n):=wK ⟨h2,h3⟩
 refine⟨B3,_,_,gg,hgg,(Array.getElem?_eq_some_iff.1 hcov).1,fun p hp=> ?_,by rw[hR];rfl⟩
 rw[hR,cell_of_row w3 gg _ _ _ _ hcov];exact AD _ p hp
abbrev mD:Obj:=.cells #[.int .i64 0,.int .i64 0,.int .i64 0,.string ⟨#[]⟩,.int .i64 0] 74
theorem uF (w2 w3:World)(B3:Below (w2.alloc mD).heap.size (w2.alloc mD) w3):w2.heap.size<w3.heap.size∧w3.cell? ⟨w2.heap.size,0,none⟩=some (.int .i64 0)∧w3.cell? ⟨w2.heap.size,1,none⟩=some (.int .i64 0)∧w3.cell? ⟨w2.heap.size,2,none⟩=some (.int .i64 0)∧w3.cell? ⟨w2.heap.size,3,none⟩=some (.string ⟨#[]⟩)∧w3.cell? ⟨w2.heap.size,4,none⟩=some (.int .i64 0)∧
  w3.frozen? ⟨w2.heap.size,0,none⟩=false∧w3.frozen? ⟨w2.heap.size,1,none⟩=false∧w3.frozen? ⟨w2.heap.size,2,none⟩=false∧w3.frozen? ⟨w2.heap.size,3,none⟩=false∧w3.frozen? ⟨w2.heap.size,4,none⟩=false:=by
 have hH:w3.heap[w2.heap.size]?=some (.cells #[.int .i64 0,.int .i64 0,.int .i64 0,.string ⟨#[]⟩,.int .i64 0] 74 (0,0)):=(B3.block _ (by simp)).trans (heap_alloc_new w2 _);have hs:=B3.size
 refine⟨by simp at hs;omega,cell_of_row _ _ _ _ _ _ hH,cell_of_row _ _ _ _ _ _ hH,cell_of_row _ _ _ _ _ _ hH,cell_of_row _ _ _ _ _ _ hH,cell_of_row _ _ _ _ _ _ hH,frozen_of_row w3 _ 0 _ _ hH,frozen_of_row w3 _ 1 _ _ hH,frozen_of_row w3 _ 2 _ _ hH,frozen_of_row w3 _ 3 _ _ hH,frozen_of_row w3 _ 4 _ _ hH⟩
def zh (w:World)(cb cc L:Nat)(E:Array Value)(s:ByteArray)(fu:Int)(g:PG):Prop:=∀W g2,Below w.heap.size w W→W.heap[g2]?=some (.cells E 3 (0,0))→Calls Tryz.prog 64 #[.slice (some ⟨cb,0,none⟩) L cc,.slice (some ⟨g2,0,none⟩) L L,.string s,.int .i64 fu] W (r8 g s W)
theorem KN (w w2:World)(H cb cc g2 L:Nat)(E:Array Value)(s:ByteArray)(fu:Int)(g:PG)(hH:H<w.heap.size)(c0:w.cell? ⟨H,0,none⟩=some (.slice (some ⟨cb,0,none⟩) L cc))(c1:w.cell? ⟨H,1,none⟩=some (.int .i64 fu))(hge:w2.heap[g2]?=some (.cells E 3 (0,0)))(B2:Below w.heap.size w w2)(HR:Hid (zh w cb cc L E s fu g)):
  w2.cell? ⟨H,0,none⟩=some (.slice (some ⟨cb,0,none⟩) L cc)∧w2.cell? ⟨H,1,none⟩=some (.int .i64 fu)∧Hid (Below w.heap.size w w2)∧Hid (Calls Tryz.prog 64 #[.slice (some ⟨cb,0,none⟩) L cc,.slice (some ⟨g2,0,none⟩) L L,.string s,.int .i64 fu] (w2.alloc mD) (r8 g s (w2.alloc mD)))∧Hid (Calls Tryz.prog 64 #[.slice (some ⟨cb,0,none⟩) L cc,.slice (some ⟨g2,0,none⟩) L L,.string s,.int .i64 fu] w2 (r8 g s w2))∧H<w2.heap.size:=
 ⟨(B2.cell (p:=⟨H,0,none⟩) hH).trans c0,(B2.cell (p:=⟨H,1,none⟩) hH).trans c1,B2,HR.out (w2.alloc mD) g2 (B2.alloc B2.size _) ((Below.heap_alloc w2 mD g2 (Array.getElem?_eq_some_iff.1 hge).1).trans hge),HR.out w2 g2 B2 hge,Nat.lt_of_lt_of_le hH B2.size⟩
theorem KO (w w2:World)(H cb cc g2 L:Nat)(E:Array Value)(s:ByteArray)(fu:Int)(g:PG)(hH:H<w.heap.size)(c0:w.cell? ⟨H,0,none⟩=some (.slice (some ⟨cb,0,none⟩) L cc))(c1:w.cell? ⟨H,1,none⟩=some (.int .i64 fu))(hge:w2.heap[g2]?=some (.cells E 3 (0,0)))(B2:Below (w.alloc mD).heap.size (w.alloc mD) w2)(HR:Hid (zh w cb cc L E s fu g)):
  w2.cell? ⟨H,0,none⟩=some (.slice (some ⟨cb,0,none⟩) L cc)∧w2.cell? ⟨H,1,none⟩=some (.int .i64 fu)∧Hid (Below (w.alloc mD).heap.size (w.alloc mD) w2)∧Hid (Calls Tryz.prog 64 #[.slice (some ⟨cb,0,none⟩) L cc,.slice (some ⟨g2,0,none⟩) L L,.string s,.int .i64 fu] w2 (r8 g s w2))∧H<w2.heap.size:=by
 have B:Below w.heap.size w w2:=((Below.refl _ _).alloc (Nat.le_refl _) _).trans (B2.mono (by simp))
 exact⟨(B.cell (p:=⟨H,0,none⟩) hH).trans c0,(B.cell (p:=⟨H,1,none⟩) hH).trans c1,B2,HR.out w2 g2 B hge,Nat.lt_of_lt_of_le hH B.size⟩
theorem KP (w w2 w3:World)(B2:Below (w.alloc mD).heap.size (w.alloc mD) w2)(B3:Below w2.heap.size w2 w3):Below w.heap.size w w3:=
 (((Below.refl _ _).alloc (Nat.le_refl _) _).trans (B2.mono (by simp))).trans (B3.mono (by have:=B2.size;simp at this;omega))
theorem EG {w2 w3:World}{H:Nat}{u v:Value}(B3:Below w2.heap.size w2 w3)(hH2:H<w2.heap.size)(h0:w2.cell? ⟨H,0,none⟩=some u)(h1:w2.cell? ⟨H,1,none⟩=some v):w3.cell? ⟨H,0,none⟩=some u∧w3.cell? ⟨H,1,none⟩=some v∧H<w3.heap.size:=
 ⟨(B3.cell (p:=⟨H,0,none⟩) hH2).trans h0,(B3.cell (p:=⟨H,1,none⟩) hH2).trans h1,Nat.lt_of_lt_of_le hH2 B3.size⟩
theorem J6 {w2 w3:World}(B3:Below (w2.alloc mD).heap.size (w2.alloc mD) w3):Below w2.heap.size w2 w3:=((Below.refl _ _).alloc (Nat.le_refl _) _).trans (B3.mono (by simp))
theorem J7 {w3:World}{H b:Nat}(hne:H≠b){u v:Value}(h0:w3.cell? ⟨H,0,none⟩=some u)(h1:w3.cell? ⟨H,1,none⟩=some v)(x0 x1 x2 x3 x4:Value):
  (((((w3.setCell ⟨b,0,none⟩ x0).setCell ⟨b,1,none⟩ x1).setCell ⟨b,2,none⟩ x2).setCell ⟨b,3,none⟩ x3).setCell ⟨b,4,none⟩ x4).cell? ⟨H,0,none⟩=some u∧(((((w3.setCell ⟨b,0,none⟩ x0).setCell ⟨b,1,none⟩ x1).setCell ⟨b,2,none⟩ x2).setCell ⟨b,3,none⟩ x3).setCell ⟨b,4,none⟩ x4).cell? ⟨H,1,none⟩=some v:=by
 have hk:∀(W:World) (i j:Nat) (x:Value),(W.setCell ⟨b,i,none⟩ x).cell? ⟨H,j,none⟩=W.cell? ⟨H,j,none⟩:=fun W i j x=>World.cell?_setCell_other _ _ _ _ (fun c=>hne (by injection c with c1 _ _;exact c1.symm))
 rw[hk,hk,hk,hk,hk,hk,hk,hk,hk,hk]
 exact⟨h0,h1⟩
structure FX (w W:World) (ob gc:Nat) (g:PG) (s:ByteArray):Prop where
 dY:Below w.heap.size w W
 lt:ob<W.heap.size
 ge:w.heap.size≤ob
 o0:W.cell? ⟨ob,0,none⟩=some (.int .i64 (g.R s).kind)
 o1:W.cell? ⟨ob,1,none⟩=some (.int .i64 (g.R s).fault)
 o2:W.cell? ⟨ob,2,none⟩=some (.int .i64 (g.R s).place)
 Lt:w.heap.size≤gc
 LY:gc<W.heap.size
 aV:∀p,p<64→W.cell? ⟨gc,p,none⟩=some (.int .u8 ((g.R s).aV p))
theorem EH {w w3:World}{gc:Nat}{g:PG}{s so:ByteArray}{st:Int}(h:Below w.heap.size w w3∧gc<w3.heap.size∧w.heap.size≤gc∧∀p,p<64→w3.cell? ⟨gc,p,none⟩=some (.int .u8 ((g.R s).aV p))):
  FX w (w3.alloc (.cells #[.int .i64 (g.R s).kind,.int .i64 (g.R s).fault,.int .i64 (g.R s).place,.string so,.int .i64 st] 74)) w3.heap.size gc g s:=by
 obtain⟨B,h1,h2,h3⟩:=h
 refine⟨B.alloc B.size _,by simp,B.size,by rw[World.cell?_alloc_new];rfl,by rw[World.cell?_alloc_new];rfl,by rw[World.cell?_alloc_new];rfl,h2,by simp;omega,fun p hp=> ?_⟩
 rw[World.cell?_alloc_past _ _ _ h1];exact h3 p hp
theorem zi {w w3:World}{ob gc:Nat}{g:PG}{s so:ByteArray}{st:Int}(B:Below w.heap.size w w3)(h1:ob<gc)(h2:gc<w3.heap.size)(h3:w.heap.size≤ob)(hc:∀p,p<64→w3.cell? ⟨gc,p,none⟩=some (.int .u8 ((g.R s).aV p))){x0 x1 x2:Value}
  (i0:w3.cell? ⟨ob,0,none⟩=some x0)(i1:w3.cell? ⟨ob,1,none⟩=some x1)(i2:w3.cell? ⟨ob,2,none⟩=some x2):
  FX w (((((w3.setCell ⟨ob,0,none⟩ (.int .i64 (g.R s).kind)).setCell ⟨ob,1,none⟩ (.int .i64 (g.R s).fault)).setCell ⟨ob,2,none⟩ (.int .i64 (g.R s).place)).setCell ⟨ob,3,none⟩ (.string so)).setCell ⟨ob,4,none⟩ (.int .i64 st)) ob gc g s:=by
 have hk:∀(W:World) (i b j:Nat) (x:Value),b≠ob∨j≠i→(W.setCell ⟨ob,i,none⟩ x).cell? ⟨b,j,none⟩=W.cell? ⟨b,j,none⟩:=fun W i b j x hne=>World.cell?_setCell_other _ _ _ _ (fun c=>by injection c with c1 c2 _;rcases hne with e|e;(exact e c1.symm);(exact e c2.symm))
 have hset:∀(W:World) (j:Nat) (x:Value),Below w.heap.size w W→Below w.heap.size w (W.setCell ⟨ob,j,none⟩ x):=fun W j x b=>b.setCell (p:=⟨ob,j,none⟩) h3 x
 refine⟨hset _ _ _ (hset _ _ _ (hset _ _ _ (hset _ _ _ (hset _ _ _ B)))),by simp;omega,h3,?_,?_,?_,by omega,by simp;omega,fun p hp=> ?_⟩
 ·rw[hk _ _ _ _ _ (by omega),hk _ _ _ _ _ (by omega),hk _ _ _ _ _ (by omega),hk _ _ _ _ _ (by omega)];exact World.cell?_setCell_same _ _ _ i0
 ·rw[hk _ _ _ _ _ (by omega),hk _ _ _ _ _ (by omega),hk _ _ _ _ _ (by omega)];exact World.cell?_setCell_same _ _ _ (show(w3.setCell ⟨ob,0,none⟩ _).cell? ⟨ob,1,none⟩=some x1 by rw[hk _ _ _ _ _ (by omega)];exact i1)
 ·rw[hk _ _ _ _ _ (by omega),hk _ _ _ _ _ (by omega)];exact World.cell?_setCell_same _ _ _ (show((w3.setCell ⟨ob,0,none⟩ _).setCell ⟨ob,1,none⟩ _).cell? ⟨ob,2,none⟩=some x2 by rw[hk _ _ _ _ _ (by omega),hk _ _ _ _ _ (by omega)];exact i2)
 ·rw[hk _ _ _ _ _ (by omega),hk _ _ _ _ _ (by omega),hk _ _ _ _ _ (by omega),hk _ _ _ _ _ (by omega),hk _ _ _ _ _ (by omega)];exact hc p hp
structure AE (h:HS):Prop where
 tries:h.tries≤4611686018427387904
 hangs:h.hangs≤4611686018427387904
 kept:h.kept.length≤1000000
 found:h.found.length≤1000000
 az:h.az.length≤1000000
structure TF (w W W5:World) (U:Nat→Prop) (d:HD) (g:PG) (h:HS) (s:ByteArray) (ob gc:Nat):Prop where
 hu:HU W5 (Gr U w W5) d g {h with tries:=h.tries+1}
 to:aA U d.H g {h with tries:=h.tries+1} w W5
 o0:W5.cell? ⟨ob,0,none⟩=some (.int .i64 (g.R s).kind)
 o1:W5.cell? ⟨ob,1,none⟩=some (.int .i64 (g.R s).fault)
 o2:W5.cell? ⟨ob,2,none⟩=some (.int .i64 (g.R s).place)
 aV:∀p,p<64→W5.cell? ⟨gc,p,none⟩=some (.int .u8 ((g.R s).aV p))
 LZ:Gr U w W5 gc
 M4:¬d.Wr gc
 c3:W.cell? ⟨d.H,3,none⟩=some (.int .i64 h.tries)
 f3:W.frozen? ⟨d.H,3,none⟩=false
 lt:d.H<W.heap.size
 ne:d.H≠ob
theorem KQ {w W:World}{U:Nat→Prop}{d:HD}{g:PG}{h:HS}{s:ByteArray}{ob gc:Nat}(p:HU w U d g h)(fx:FX w W ob gc g s):TF w W (W.setCell ⟨d.H,3,none⟩ (.int .i64 ((h.tries:Int)+1))) U d g h s ob gc:=by
 have p4:=p.gr fx.dY;have hHl:d.H<w.heap.size:=p.lt _ (p.dR _ (Or.inl rfl));have hne:d.H≠ob:=by have:=fx.ge;omega
 have hng:d.H≠gc:=by have:=fx.Lt;omega
 have p5:HU (W.setCell ⟨d.H,3,none⟩ (.int .i64 ((h.tries:Int)+1))) (Gr U w W) d g {h with tries:=h.tries+1}:=p4.set 3 _ _ rfl rfl rfl (fun j hj=>by
  by_cases e:j=3
  ·subst e;rw[if_pos rfl];show Value.int .i64 ((h.tries+1:Nat):Int)=_;rfl
  ·rw[if_neg e];unfold hval;simp only[if_neg e])
 have hk:∀(b j:Nat) (x:Value),b≠d.H→(W.setCell ⟨d.H,3,none⟩ x).cell? ⟨b,j,none⟩=W.cell? ⟨b,j,none⟩:=fun b j x hb=>World.cell?_setCell_other _ _ _ _ (fun c=>hb (by injection c with c1 _ _;exact c1.symm))
 have hsz:(W.setCell ⟨d.H,3,none⟩ (.int .i64 ((h.tries:Int)+1))).heap.size=W.heap.size:=World.size_setCell _ _ _;rw[fR (U:=U) (w:=w) hsz.symm]at p5
 exact{
  hu:=p5
  to:=⟨(Fr.below fx.dY).same (Fr.set (p.dR _ (Or.inl rfl)) 3 _),d,rfl,p5⟩
  o0:=(hk _ _ _ hne.symm).trans fx.o0
  o1:=(hk _ _ _ hne.symm).trans fx.o1
  o2:=(hk _ _ _ hne.symm).trans fx.o2
  aV:=fun q hq=>(hk _ _ _ hng.symm).trans (fx.aV q hq)
  LZ:=Or.inr ⟨fx.Lt,by rw[hsz];exact fx.LY⟩
  M4:=fun c=>by have h1:=p.lt _ (p.dR _ c);have h2:=fx.Lt;omega
  c3:=p4.cell 3 (by omega)
  f3:=p4.thaw 3
  lt:=p4.lt _ (p4.dR _ (Or.inl rfl))
  ne:=hne}
theorem JS {W:World}{U:Nat→Prop}{d:HD}{g:PG}{h:HS}(p:HU W U d g h):aA U d.H g {h with hangs:=h.hangs+1} W (W.setCell ⟨d.H,4,none⟩ (.int .i64 ((h.hangs:Int)+1))):=by
 refine⟨Fr.set (p.dR _ (Or.inl rfl)) 4 _,d,rfl,?_⟩
 rw[jy U W _ (World.size_setCell _ _ _)];exact p.set 4 _ _ rfl rfl rfl (fun j hj=>by
  by_cases e:j=4
  ·subst e;rw[if_pos rfl];show Value.int .i64 ((h.hangs+1:Nat):Int)=_;rfl
  ·rw[if_neg e];unfold hval;simp only[if_neg e])
theorem uG {w:World}{U:Nat→Prop}{d:HD}{g:PG}{h:HS}(p:HU w U d g h)(hg:oM g)(hT:bK w)(hl:∀k∈h.kept,∀q,jl (k.aV q))(hz:AE h)(s:ByteArray)(hs:s.size≤24):
  Calls Tryz.prog 79 #[.pointer (some ⟨d.H,0,none⟩),.string s] w fun e w'=>e=.returned (.int .u8 (aD g.R h s).2)∧aA U d.H g (aD g.R h s).1 w w':=by
 have htr:=hz.tries;have hha:=hz.hangs;have HZ:Hid (AE h∧∀k∈h.kept,∀q,jl (k.aV q)):=⟨hz,hl⟩
 obtain⟨hx,hhx⟩:∃hx,(aD g.R h s).1=hx:=⟨_,rfl⟩
 obtain⟨lx,hlx⟩:∃lx,(aD g.R h s).2=lx:=⟨_,rfl⟩
 rw[hhx,hlx];have HTRY:Hid ((aD g.R h s).1=hx∧(aD g.R h s).2=lx):=⟨hhx,hlx⟩;clear hz hl hhx hlx;have c0:w.cell? ⟨d.H,0,none⟩=some (.slice (some ⟨d.cb,0,none⟩) g.L d.cc):=p.cell 0 (by omega);have c1:w.cell? ⟨d.H,1,none⟩=some (.int .i64 g.fuel):=p.cell 1 (by omega);have hH:d.H<w.heap.size:=p.lt _ (p.dR _ (Or.inl rfl));have HE:Hid (∀W,Below w.heap.size w W→Calls Tryz.prog 65 #[.slice (some ⟨d.cb,0,none⟩) g.L d.cc] W fun e w'=>(∃g2,e=.returned (.slice (some ⟨g2,0,none⟩) g.L g.L)∧w'.heap[g2]?=some (.cells (il g.L (cP (aT g.c g.N) g.L)).toArray 3 (0,0)))∧Below W.heap.size W w'):=fun W B=>
  (oU W d.cb 0 g.L d.cc g.N g.c hg.vp (p.code.below B) (hT.below B)).mono fun e w' ⟨g2,_,h2,h3,B2⟩=>⟨⟨g2,h2,h3⟩,B2⟩
 have HR:Hid (zh w d.cb d.cc g.L (il g.L (cP (aT g.c g.N) g.L)).toArray s g.fuel g):=fun W g2 B h2=>
  JR W d.cb g.L d.cc g2 g hg rfl s hs (hT.below B) (p.code.below B) h2
 have HP:Hid (HU w U d g h):=p;have hneW:d.H≠w.heap.size:=by omega
 generalize hfu:g.fuel=fu at*;generalize hLL:g.L=L at*;have HQ:Hid (g.fuel=fu∧g.L=L):=⟨hfu,hLL⟩;clear p hfu hLL;go_in;go_wp2_with fail
 go_region_held3 (fun W=>W.cell? ⟨d.H,0,none⟩=some (.slice (some ⟨d.cb,0,none⟩) L d.cc)∧W.cell? ⟨d.H,1,none⟩=some (.int .i64 fu)) (first|go_keep|exact J7 hne2 hd0 hd1 _ _ _ _ _|exact J7 hneW hd0 hd1 _ _ _ _ _) (first
  |(go_at_call 65;go_fit (HE.out w.drew (Below.refl _ _).drew);rintro e w2 ⟨⟨g2,rfl,hge⟩,B2⟩;obtain⟨hc0,hc1,HB2,HR1,HR2,hH2⟩:=KN w w2 d.H d.cb d.cc g2 L _ s fu g hH c0 c1 hge ⟨B2.os,B2.tape,B2.output,B2.size,B2.block⟩ HR;have hne2:d.H≠w2.heap.size:=Nat.ne_of_lt hH2;clear hge B2)
  |(go_at_call 65;go_fit (HE.out (w.alloc mD).drew ((Below.refl _ _).alloc (Nat.le_refl _) _).drew);rintro e w2 ⟨⟨g2,rfl,hge⟩,B2⟩;obtain⟨hc0,hc1,HBB,HR3,hH2⟩:=KO w w2 d.H d.cb d.cc g2 L _ s fu g hH c0 c1 hge ⟨B2.os,B2.tape,B2.output,B2.size,B2.block⟩ HR;clear hge B2)
  |(go_at_call 64;go_fit HR1.out;rintro e w3 ⟨B3,so,st,gc,hgc,hgc2,hcov,rfl⟩;obtain⟨hd0,hd1,hH3⟩:=EG (J6 B3) hH2 hc0 hc1;obtain⟨hlt3,i0,i1,i2,i3,i4,j0,j1,j2,j3,j4⟩:=uF w2 w3 B3;have HF:Hid (Below w.heap.size w w3∧w2.heap.size<gc∧gc<w3.heap.size∧w.heap.size≤w2.heap.size∧∀p,p<64→w3.cell? ⟨gc,p,none⟩=some (.int .u8 ((g.R s).aV p))):=⟨(HB2.out.alloc HB2.out.size _).trans (B3.mono (by have:=HB2.out.size;simp;omega)),by simp at hgc;omega,hgc2,HB2.out.size,hcov⟩;clear hcov B3)
  |(go_at_call 64;go_fit HR2.out;rintro e w3 ⟨B3,so,st,gc,hgc,hgc2,hcov,rfl⟩;obtain⟨hd0,hd1,hH3⟩:=EG B3 hH2 hc0 hc1;have HF:Hid (Below w.heap.size w w3∧gc<w3.heap.size∧w.heap.size≤gc∧∀p,p<64→w3.cell? ⟨gc,p,none⟩=some (.int .u8 ((g.R s).aV p))):=⟨HB2.out.trans (B3.mono HB2.out.size),hgc2,by have:=HB2.out.size;omega,hcov⟩;clear hcov B3)
  |(go_at_call 64;go_fit HR3.out;rintro e w3 ⟨B3,so,st,gc,hgc,hgc2,hcov,rfl⟩;obtain⟨hd0,hd1,hH3⟩:=EG B3 hH2 hc0 hc1;obtain⟨hlt3,i0,i1,i2,i3,i4,j0,j1,j2,j3,j4⟩:=uF w w3 (HBB.out.trans (B3.mono HBB.out.size));have HF:Hid (Below w.heap.size w w3∧w.heap.size<gc∧gc<w3.heap.size∧∀p,p<64→w3.cell? ⟨gc,p,none⟩=some (.int .u8 ((g.R s).aV p))):=⟨KP w w2 w3 HBB.out B3,by have:=HBB.out.size;simp at this;omega,hgc2,hcov⟩;clear hcov B3))
 all_goals first
  |(have HFX:Hid (FX w (w3.alloc (.cells #[.int .i64 (g.R s).kind,.int .i64 (g.R s).fault,.int .i64 (g.R s).place,.string so,.int .i64 st] 74)) w3.heap.size gc g s):=EH HF.out
    generalize w3.alloc (.cells #[.int .i64 (g.R s).kind,.int .i64 (g.R s).fault,.int .i64 (g.R s).place,.string so,.int .i64 st] 74)=W4 at HFX⊢;generalize w3.heap.size=ob at HFX⊢)
  |(have HFX:Hid (FX w (((((w3.setCell ⟨w2.heap.size,0,none⟩ (.int .i64 (g.R s).kind)).setCell ⟨w2.heap.size,1,none⟩ (.int .i64 (g.R s).fault)).setCell ⟨w2.heap.size,2,none⟩ (.int .i64 (g.R s).place)).setCell ⟨w2.heap.size,3,none⟩ (.string so)).setCell ⟨w2.heap.size,4,none⟩ (.int .i64 st)) w2.heap.size gc g s):=zi HF.out.1 HF.out.2.1 HF.out.2.2.1 HF.out.2.2.2.1 HF.out.2.2.2.2 i0 i1 i2
    generalize((((w3.setCell ⟨w2.heap.size,0,none⟩ (.int .i64 (g.R s).kind)).setCell ⟨w2.heap.size,1,none⟩ (.int .i64 (g.R s).fault)).setCell ⟨w2.heap.size,2,none⟩ (.int .i64 (g.R s).place)).setCell ⟨w2.heap.size,3,none⟩ (.string so)).setCell ⟨w2.heap.size,4,none⟩ (.int .i64 st)=W4 at HFX⊢
    generalize w2.heap.size=ob at HFX⊢)
  |(have HFX:Hid (FX w (((((w3.setCell ⟨w.heap.size,0,none⟩ (.int .i64 (g.R s).kind)).setCell ⟨w.heap.size,1,none⟩ (.int .i64 (g.R s).fault)).setCell ⟨w.heap.size,2,none⟩ (.int .i64 (g.R s).place)).setCell ⟨w.heap.size,3,none⟩ (.string so)).setCell ⟨w.heap.size,4,none⟩ (.int .i64 st)) w.heap.size gc g s):=zi HF.out.1 HF.out.2.1 HF.out.2.2.1 (Nat.le_refl _) HF.out.2.2.2 i0 i1 i2
    generalize((((w3.setCell ⟨w.heap.size,0,none⟩ (.int .i64 (g.R s).kind)).setCell ⟨w.heap.size,1,none⟩ (.int .i64 (g.R s).fault)).setCell ⟨w.heap.size,2,none⟩ (.int .i64 (g.R s).place)).setCell ⟨w.heap.size,3,none⟩ (.string so)).setCell ⟨w.heap.size,4,none⟩ (.int .i64 st)=W4 at HFX⊢
    generalize hob:w.heap.size=ob at HFX⊢)
 all_goals
  have tf:=KQ HP.out HFX.out;have HTF:=hid tf;have c3:=tf.c3;have f3:=tf.f3;have hne:=tf.ne;have hlt4:=tf.lt;have hobl:=HFX.out.lt;have e0:=HFX.out.o0;have e1:=HFX.out.o1;have e2:=HFX.out.o2;clear tf HF HE HR;generalize hkk:(g.R s).kind=kk at e0⊢;have HKK:=hid hkk;clear hkk;by_cases k1:kk=1
  ·subst k1;have HY:Hid ((nO {h with tries:=h.tries+1} s (g.R s).fault (g.R s).place).1=hx∧(nO {h with tries:=h.tries+1} s (g.R s).fault (g.R s).place).2=lx):=by
    have:=HTRY.out
    rw[uE,HKK.out,if_pos rfl]at this;exact this
   have H1:Hid (Calls Tryz.prog 121 #[.pointer (some ⟨d.H,0,none⟩),.agg #[.string s,.int .i64 (g.R s).fault,.int .i64 (g.R s).place]] (W4.setCell ⟨d.H,3,none⟩ (.int .i64 ((h.tries:Int)+1))) fun e w'=>e=.returned (.int .u8 (nO {h with tries:=h.tries+1} s (g.R s).fault (g.R s).place).2)∧aA (Gr U w (W4.setCell ⟨d.H,3,none⟩ (.int .i64 ((h.tries:Int)+1)))) d.H g (nO {h with tries:=h.tries+1} s (g.R s).fault (g.R s).place).1 (W4.setCell ⟨d.H,3,none⟩ (.int .i64 ((h.tries:Int)+1))) w'):=
    ED HTF.out.hu s _ _ HZ.out.1.found HZ.out.1.az
   rw[HY.out.1,HY.out.2]at H1
   generalize(g.R s).fault=ff at e1 H1⊢
   generalize(g.R s).place=pp at e2 H1⊢
   go_wp2_with fail
   refine H1.out.mono ?_;rintro e w5 ⟨rfl,hT5⟩;have HT5:Hid _:=HTF.out.to.then hT5;clear hT5;go_wp2_with fail
   go_ret
   exact⟨rfl,HT5.out⟩
  ·by_cases k2:kk=2
   ·subst k2;have HY:Hid (({h with tries:=h.tries+1,hangs:=h.hangs+1}:HS)=hx∧(0:Int)=lx):=by
     have:=HTRY.out
     rw[uE,HKK.out,if_neg (by decide),if_pos rfl]at this;exact this
    have hf:=JS HTF.out.hu;have HT5:Hid _:=HTF.out.to.then hf;have c4:W4.cell? ⟨d.H,4,none⟩=some (.int .i64 h.hangs):=(HP.out.gr HFX.out.dY).cell 4 (by omega);have f4:=(HP.out.gr HFX.out.dY).thaw 4;clear hf;go_wp2;go_ret
    exact⟨by rw[←HY.out.2];rfl,by rw[←HY.out.1];exact HT5.out⟩
   ·have HY:Hid ((nP {h with tries:=h.tries+1} s (g.R s).aV).1=hx∧(nP {h with tries:=h.tries+1} s (g.R s).aV).2=lx):=by
     have:=HTRY.out
     rw[uE,HKK.out,if_neg k1,if_neg k2]at this;exact this
    have H1:Hid (Calls Tryz.prog 122 #[.pointer (some ⟨d.H,0,none⟩),.agg #[.string s,.slice (some ⟨gc,0,none⟩) 64 64]] (W4.setCell ⟨d.H,3,none⟩ (.int .i64 ((h.tries:Int)+1))) fun e w'=>e=.returned (.int .u8 (nP {h with tries:=h.tries+1} s (g.R s).aV).2)∧aA (Gr U w (W4.setCell ⟨d.H,3,none⟩ (.int .i64 ((h.tries:Int)+1)))) d.H g (nP {h with tries:=h.tries+1} s (g.R s).aV).1 (W4.setCell ⟨d.H,3,none⟩ (.int .i64 ((h.tries:Int)+1))) w'):=
     EF HTF.out.hu HZ.out.2 s _ (g.mC.aV s hs) gc HTF.out.aV HTF.out.LZ HTF.out.M4 HZ.out.1.kept HZ.out.1.az
    rw[HY.out.1,HY.out.2]at H1;go_wp2_with fail
    refine H1.out.mono ?_;rintro e w5 ⟨rfl,hT5⟩;have HT5:Hid _:=HTF.out.to.then hT5;clear hT5;go_wp2_with fail
    go_ret
    exact⟨rfl,HT5.out⟩
theorem CH (d t l:Int):0≤bT d t l∧bT d t l≤3:=by
 unfold bT;split
 ·omega
 ·split<;>omega
theorem CI (σ:St)(k:Nat)(n:Int)(h0:0≤n)(h1:n≤255)(h:0≤σ.fault∧σ.fault<300):0≤(fT σ k n).fault∧(fT σ k n).fault<300:=by
 unfold fT;dsimp only;unfold vn fin;repeat' split
 all_goals first|exact h|(dsimp only;omega)
theorem zm (σ:St)(k:Nat)(n fuel:Int)(h0:0≤n)(h1:n≤255)(h:0≤σ.fault∧σ.fault<300):0≤(mq σ k n fuel).fault∧(mq σ k n fuel).fault<300:=by
 unfold mq;split
 ·exact h
 split
 ·show 0≤(0:Int)∧(0:Int)<300;omega
 split
 ·have:=CH σ.stack.length (aX (k*3+1)) (aX (k*3+2))
  show 0≤bT _ _ _∧bT _ _ _<300;omega
 ·exact CI _ _ _ h0 h1 h
theorem CJ (σ:St)(k:Nat)(n:Int):(fT σ k n).place=σ.place:=by
 unfold fT;dsimp only;unfold vn fin;repeat' split
 all_goals rfl
theorem zn (σ:St)(k:Nat)(n fuel:Int):(mq σ k n fuel).place=σ.place:=by
 unfold mq;split
 ·rfl
 split
 ·rfl
 split
 ·rfl
 ·exact CJ _ _ _
theorem x6 {c aY:Nat→Int}{L:Nat}{Start:Nat→Prop}{fuel:Int}{inp:ByteArray}(hG:Good c L Start)(hE:∀p,p<L→-1≤aY p∧aY p≤255)(hi:inp.size≤24)(hf:0≤fuel):∀n,(∀m,m<n→(after c aY fuel (jm inp) m).σ.ended=false)→
  Inv L Start fuel (after c aY fuel (jm inp) n)∧(0≤(after c aY fuel (jm inp) n).σ.fault∧(after c aY fuel (jm inp) n).σ.fault<300)∧(0≤(after c aY fuel (jm inp) n).σ.place∧(after c aY fuel (jm inp) n).σ.place<400)
 |0,_=>by
  refine⟨⟨Int.le_refl 0,?_,fun _=>hG.zero,Nat.zero_le 32,hi,Nat.zero_le 16,Int.le_refl 0,hf,fun _=>Int.le_refl 0,Int.le_refl 0,?_⟩,⟨Int.le_refl 0,?_⟩,⟨Int.le_refl 0,?_⟩⟩
  ·show(0:Int)≤300;omega
  ·show(0:Int)≤256;omega
  ·show(0:Int)<300;omega
  ·show(0:Int)<400;omega
 |n+1,h=>by
  obtain⟨i1,f1,_⟩:=x6 hG hE hi hf n (fun m hm=>h m (by omega))
  have he:=h n (by omega);have i2:=(qs hG hE i1 he).1;have sb:=fM hG (i1.start he)
  refine⟨i2,zm _ _ _ _ sb.1 sb.2 f1,?_⟩
  have e:(after c aY fuel (jm inp) (n+1)).σ.place=(after c aY fuel (jm inp) n).σ.next:=zn _ _ _ _;rw[e]
  have:=i1.vA
  have:=i1.DN
  omega
theorem oM.EL {g:PG}(ok:oM g):Ls g.R:=by
 have key:∀s:ByteArray,s.size≤24→(0≤(g.R s).fault∧(g.R s).fault<300)∧0≤(g.R s).place∧(g.R s).place<400:=by
  intro s hs;unfold PG.R qU;split
  ·rename_i h
   have hx:=Classical.choose_spec h
   have:=x6 ok.vp.good (fun p hp=>mO _ g.L p hp ok.vp.most) hs (by have:=ok.wW;omega:(0:Int)≤g.fuel) _ hx.2
   exact this.2
  ·exact⟨⟨by decide,by decide⟩,by decide,by decide⟩
 exact⟨fun s hs=>(key s hs).1,fun s hs=>(key s hs).2⟩
theorem cE.sz {g:PG}{h:HS}(p:cE g.R h)(ok:oM g)(ht:h.tries≤1000000)(hh:h.hangs≤1000000):AE h:=⟨by omega,by omega,by have:=p.most;omega,by have:=nL p ok.EL;omega,by have:=jB p ok.EL;omega⟩
end Go.Proofs.YtmpgjkhchfcjlaaGreatDoor
