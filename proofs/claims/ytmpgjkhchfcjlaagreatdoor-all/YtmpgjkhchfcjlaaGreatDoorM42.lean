import Derived.Test.YtmpgjkhchfcjlaaGreatDoorM22
import Derived.Test.YtmpgjkhchfcjlaaGreatDoorM30
import Derived.Test.YtmpgjkhchfcjlaaGreatDoorM31
import Derived.Test.YtmpgjkhchfcjlaaGreatDoorM35
import Derived.Test.YtmpgjkhchfcjlaaGreatDoorM36
namespace Go.Proofs.YtmpgjkhchfcjlaaGreatDoor
open Go.RowKit
set_option maxRecDepth 100000
set_option maxHeartbeats 8000000
theorem EK {w:World}{U:Nat→Prop}{Y:Nat}{d:DD}{g:PG}{h:HS}(p:DU w U Y d g h)(hg:oM g)(F:gq g.c g.L g.N 19)(hcl:∀k∈h.kept,∀q,jl (k.aV q))(hz:AE h)(hlog:(iw h).size≤1000000000)(hwk:h.worked h.kept.length=false)(s:ByteArray)(hs:s.size≤24):
  Calls Tryz.prog 82 #[.pointer (some ⟨Y,0,none⟩),.string s] w fun e w'=>e=.returned (.int .u8 (r9 (aD g.R h s).2))∧bu U Y g (aD g.R h s).1 w w':=by
 have HA:Hid (∀W ob gc,FX w W ob gc g s→wY w W U Y ob gc g h s):=fun W ob gc fx=>EI p fx hcl hz hlog hwk hs
 have c0:w.cell? ⟨Y,0,none⟩=some (.slice (some ⟨d.cb,0,none⟩) g.L d.cc):=p.cell 0 (by omega);have c1:w.cell? ⟨Y,1,none⟩=some (.int .i64 g.fuel):=p.cell 1 (by omega);have hY:Y<w.heap.size:=p.ob.lt;have HR:Hid (∀W,Below w.heap.size w W→Calls Tryz.prog 67 #[.slice (some ⟨d.cb,0,none⟩) g.L d.cc,.string s,.int .i64 g.fuel] W (r8 g s W)):=fun W B=>I1 W d.cb d.cc g hg F s hs (p.dk.code.below B)
 have hneW:Y≠w.heap.size:=by omega
 generalize g.fuel=fu at*;generalize g.L=L at*;clear p hz hcl hwk F hg hlog;go_in;refine bQ (ag Tryz.f82.body) (by kernel_rfl) ?_;go_wp2_with fail
 go_region_with(first
  |(go_at_call 67;refine(HR.out w.drew (Below.refl _ _).drew).mono ?_;rintro e w3 ⟨B3,so,st,gc,hgc,hgc2,hcov,rfl⟩;have HF:Hid (Below w.heap.size w w3∧gc<w3.heap.size∧w.heap.size≤gc∧∀p,p<64→w3.cell? ⟨gc,p,none⟩=some (.int .u8 ((g.R s).aV p))):=⟨⟨B3.os,B3.tape,B3.output,B3.size,B3.block⟩,hgc2,hgc,hcov⟩;clear hcov B3)
  |(go_at_call 67;refine(HR.out (w.alloc mD).drew ((Below.refl _ _).alloc (Nat.le_refl _) _).drew).mono ?_;rintro e w3 ⟨B3,so,st,gc,hgc,hgc2,hcov,rfl⟩;obtain⟨hlt3,i0,i1,i2,i3,i4,j0,j1,j2,j3,j4⟩:=uF w w3 ⟨B3.os,B3.tape,B3.output,B3.size,B3.block⟩;have HF:Hid (Below w.heap.size w w3∧w.heap.size<gc∧gc<w3.heap.size∧∀p,p<64→w3.cell? ⟨gc,p,none⟩=some (.int .u8 ((g.R s).aV p))):=⟨J6 ⟨B3.os,B3.tape,B3.output,B3.size,B3.block⟩,by simp at hgc;omega,hgc2,hcov⟩;clear hcov B3))
 all_goals first
  |(have HFX:Hid (FX w (w3.alloc (.cells #[.int .i64 (g.R s).kind,.int .i64 (g.R s).fault,.int .i64 (g.R s).place,.string so,.int .i64 st] 74)) w3.heap.size gc g s):=EH HF.out
    generalize w3.alloc (.cells #[.int .i64 (g.R s).kind,.int .i64 (g.R s).fault,.int .i64 (g.R s).place,.string so,.int .i64 st] 74)=W4 at HFX⊢;generalize w3.heap.size=ob at HFX⊢)
  |(have HFX:Hid (FX w (((((w3.setCell ⟨w.heap.size,0,none⟩ (.int .i64 (g.R s).kind)).setCell ⟨w.heap.size,1,none⟩ (.int .i64 (g.R s).fault)).setCell ⟨w.heap.size,2,none⟩ (.int .i64 (g.R s).place)).setCell ⟨w.heap.size,3,none⟩ (.string so)).setCell ⟨w.heap.size,4,none⟩ (.int .i64 st)) w.heap.size gc g s):=zi HF.out.1 HF.out.2.1 HF.out.2.2.1 (Nat.le_refl _) HF.out.2.2.2 i0 i1 i2
    generalize((((w3.setCell ⟨w.heap.size,0,none⟩ (.int .i64 (g.R s).kind)).setCell ⟨w.heap.size,1,none⟩ (.int .i64 (g.R s).fault)).setCell ⟨w.heap.size,2,none⟩ (.int .i64 (g.R s).place)).setCell ⟨w.heap.size,3,none⟩ (.string so)).setCell ⟨w.heap.size,4,none⟩ (.int .i64 st)=W4 at HFX⊢
    generalize hob:w.heap.size=ob at HFX⊢)
 all_goals
  have A:=HA.out W4 ob gc HFX.out;clear HF HR HFX HA c0 c1;go_wp2_with fail
  by_cases k2:(g.R s).kind=2
  ·exact EJ w W4 U Y ob gc g h s _ _ _ _ _ _ _ _ _ _ _ _ _ A k2
  ·by_cases k1:(g.R s).kind=1
   ·exact wZ w W4 U Y ob gc g h s _ _ _ _ _ _ _ _ _ _ _ _ _ A k1
   ·exact CG w W4 U Y ob gc g h s _ _ _ _ _ _ _ _ _ _ _ _ _ A k1 k2
structure uM (g:PG):Prop where
 ok:oM g
 fine:gq g.c g.L g.N 19
theorem AO {w:World}{U:Nat→Prop}{Y:Nat}{d:DD}{g:PG}{h:HS}(p:DU w U Y d g h)(hg:uM g)(q:jq g.R h)(ht:h.tries≤4611686018427387904)(s:ByteArray)(hs:s.size≤24):
  Calls Tryz.prog 82 #[.pointer (some ⟨Y,0,none⟩),.string s] w fun e w'=>e=.returned (.int .u8 (r9 (aD g.R h s).2))∧bu U Y g (aD g.R h s).1 w w':=by
 have hz:=q.sz hg.ok.EL ht;refine EK p hg.ok hg.fine (iJ g.mC q.inv) hz ?_ (q.wk _ (Nat.le_refl _)) s hs
 have:=wX h.az q.txt
 have:=jB q.inv hg.ok.EL
 show(strOfNums (gQ h.az)).size≤_
 omega
structure TL (w:World) (v:Value) (l:List ByteArray):Prop where
 form:∃ao cap,v=.slice ao l.length cap∧l.length≤cap∧cap≤9223372036854775807∧∀j,j<l.length→∃b o,ao=some ⟨b,o,none⟩∧b<w.heap.size∧∀j,j<l.length→w.cell? ⟨b,o+j,none⟩=some (.string (l.getD j ⟨#[]⟩))
theorem TL.below {w w':World}{v:Value}{l:List ByteArray}(h:TL w v l)(B:Below w.heap.size w w'):TL w' v l:=by
 obtain⟨ao,cap,h1,h2,h3,h4⟩:=h.form
 refine⟨ao,cap,h1,h2,h3,fun j hj=> ?_⟩
 obtain⟨b,o,e,hb,hc⟩:=h4 j hj
 exact⟨b,o,e,Nat.lt_of_lt_of_le hb B.size,fun j hj=>(B.cell (p:=⟨b,o+j,none⟩) hb).trans (hc j hj)⟩
def ez (bad:Bool)(l:List ByteArray)(fuel:Int):Int:=if bad then 1 else if 8<l.length then 3 else if l.any (fun s=>decide (24<s.size))then 2 else if fuel<1∨500<fuel then 2 else 0
structure gD (w:World) (g:PG) (h:HS) (Y:Nat) (w':World):Prop where
 dY:Below w.heap.size w w'
 du:∃U d,DU w' U Y d g h∧∀k,U k→w.heap.size≤k
def Fe (c:Nat→Int)(L:Nat)(l:List ByteArray)(aa fuel:Int)(w:World)(e:Ending)(w':World):Prop:=
 ∃r b,cZ c L 80 19 r b∧((ez b l fuel≠0∧e=.returned (.tuple #[.pointer none,.int .i64 (ez b l fuel)])∧Below w.heap.size w w')∨
  (ez b l fuel=0∧∃N Y,uM ⟨c,L,N,fuel⟩∧e=.returned (.tuple #[.pointer (some ⟨Y,0,none⟩),.int .i64 0])∧gD w ⟨c,L,N,fuel⟩ (bX (PG.R ⟨c,L,N,fuel⟩) (HS.zero aa) l) Y w'))
theorem gD.tried {w wr:World}{g:PG}{h:HS}{Y:Nat}(m:gD w g h Y wr)(hg:uM g)(q:jq g.R h)(ht:h.tries≤4611686018427387904)(s:ByteArray)(hs:s.size≤24):Calls Tryz.prog 82 #[.pointer (some ⟨Y,0,none⟩),.string s] wr fun e w'=>e=.returned (.int .u8 (r9 (aD g.R h s).2))∧gD w g (aD g.R h s).1 Y w':=by
 obtain⟨U,d,D,hU⟩:=m.du
 refine(AO D hg q ht s hs).mono ?_
 rintro e w' ⟨rfl,t⟩
 obtain⟨d',D'⟩:=t.du
 have hb:=m.dY.size
 exact⟨rfl,m.dY.trans (t.fr.low hU hb),_,d',D',fun k hk=>hk.elim (hU k) (fun c=>by omega)⟩
theorem rA (w:World)(v vf:Value)(L:Nat)(c:Nat→Int)(hby:∀i,i<L→0≤c i∧c i≤255)(C:b9 w v L c)(l:List ByteArray)(T:TL w vf l)(hls:∀s∈l,s.size≤9223372036854775807)(aa fuel:Int)(s0:0≤aa)(s1:aa≤18446744073709551615)(h3:3≤w.heap.size):
  Calls Tryz.prog 38 #[v,vf,.int .u64 aa,.int .i64 fuel] w (Fe c L l aa fuel w):=by
 have H1:=hid (iY w v L 80 c false (by omega) hby C)
 obtain⟨pc,ax,rfl⟩:=C.form
 obtain⟨ao,cap,rfl,hlc,hcap,hrow⟩:=T.form
 have HTL:Hid (∀W,Below w.heap.size w W→TL W (.slice ao l.length cap) l):=fun W B=>T.below B
 have HC:=hid C;have HLS:=hid hls;clear T C hls hrow;go_in;go_wp2_with fail
 refine H1.out.mono ?_;rintro e w1 ⟨r,b,hF,rfl,B1⟩;have HF:=hid hF;have HB1:=hid B1;clear H1 hF B1
 cases b with
 |true=>
  have hr:(0:Int)≤(r:Int):=by omega
  go_wp2;go_ret2
  exact⟨r,true,HF.out,Or.inl ⟨by simp[ez],rfl,HB1.out⟩⟩
 |false=>
  have HE:Hid (ez false l fuel=if 8<l.length then 3 else if l.any (fun s=>decide (24<s.size))then 2 else if fuel<1∨500<fuel then 2 else 0):=rfl;by_cases h8:8<l.length
  ·have hi8:(8:Int)<(l.length:Int):=(by omega);have HX:=hid (HE.out.trans (if_pos h8));generalize l.length=n at*;go_wp2;go_ret2
   exact⟨r,false,HF.out,Or.inl ⟨by rw[HX.out];decide,by rw[HX.out]<;>rfl,HB1.out⟩⟩
  ·have hi8:¬(8:Int)<(l.length:Int):=(by omega);go_wp2_with fail
   go_loopw [11] (fun i wr=>∃k:Nat,k≤l.length∧i=.int .i64 k∧Sm w1 wr∧∀s∈l.take k,s.size≤24) (fun i _=>l.length-(intOf i).toNat)
   case atStart=>exact ⟨0,by omega,rfl,Sm.refl _,fun s hs=>by simp at hs⟩
   case round=>
    obtain⟨k,hk,rfl,S,hsm⟩:=hrel
    by_cases hlt:k<l.length
    ·obtain⟨ao',cap',e',_,_,hrow⟩:=(HTL.out wr (HB1.out.trans (S.below _))).form
     simp only[Value.slice.injEq,true_and]at e'
     obtain⟨rfl,rfl⟩:=e'
     obtain⟨b,o,rfl,hb,hc⟩:=hrow k hlt
     have ck:=hc k hlt;have hi1:(k:Int)<(l.length:Int):=(by omega);have HS:Hid (Sm w1 wr∧∀s∈l.take k,s.size≤24):=⟨S,hsm⟩;have HT:Hid (∀x,x∈l.take (k+1)→x∈l.take k∨x=l.getD k ⟨#[]⟩):=fun x hx=>by
      rw[List.take_add_one,List.mem_append]at hx;refine hx.imp id (fun c=> ?_);rw[List.getElem?_eq_getElem hlt]at c;rw[List.getD_eq_getElem?_getD,List.getElem?_eq_getElem hlt];simpa using c
     have hmem:l.getD k ⟨#[]⟩∈l:=by rw[List.getD_eq_getElem?_getD,List.getElem?_eq_getElem hlt];exact List.getElem_mem hlt
     have hsz:=HLS.out _ hmem;have HM:=hid hmem;clear S hsm hc hrow hmem;generalize l.getD k ⟨#[]⟩=t at*;by_cases h24:24<t.size
     ·have hi24:(24:Int)<(t.size:Int):=(by omega);have HX:Hid (ez false l fuel=2):=HE.out.trans (by rw[if_neg h8,if_pos (List.any_eq_true.2 ⟨t,HM.out,by simpa using h24⟩)]);generalize l.length=n at*;go_wp2;go_ret2
      exact⟨r,false,HF.out,Or.inl ⟨by rw[HX.out];decide,by rw[HX.out]<;>rfl,HB1.out.trans (HS.out.1.below _)⟩⟩
     ·have hi24:¬(24:Int)<(t.size:Int):=(by omega);go_wp2_with fail
      go_roundw
      case rel=>exact ⟨k+1,by omega,by go_num,HS.out.1,fun x hx=>(HT.out x hx).elim (HS.out.2 x) (fun e=>by rw[e];omega)⟩
      case measure=>simp [intOf];omega
    ·obtain rfl:k=l.length:=by omega
     have hnn:¬(l.length:Int)<(l.length:Int):=(by omega);rw[List.take_length]at hsm;have HB2:Hid (Below w.heap.size w wr):=HB1.out.trans (S.below _);have HSM:Hid (∀s∈l,s.size≤24):=hsm;have HE2:Hid (ez false l fuel=if fuel<1∨500<fuel then 2 else 0):=HE.out.trans (by
      rw[if_neg h8,if_neg];rw[List.any_eq_true]
      rintro⟨x,hx,hy⟩
      have:=hsm x hx
      simp at hy
      omega)
     clear S hsm HE;by_cases hf1:fuel<1
     ·have HX:=hid (HE2.out.trans (if_pos (Or.inl hf1)));generalize l.length=n at*;go_wp2;go_ret2
      exact⟨r,false,HF.out,Or.inl ⟨by rw[HX.out];decide,by rw[HX.out]<;>rfl,HB2.out⟩⟩
     ·by_cases hf2:500<fuel
      ·have HX:=hid (HE2.out.trans (if_pos (Or.inr hf2)));generalize l.length=n at*;go_wp2;go_ret2
       exact⟨r,false,HF.out,Or.inl ⟨by rw[HX.out];decide,by rw[HX.out]<;>rfl,HB2.out⟩⟩
      ·have HX:=hid (HE2.out.trans (if_neg (by omega)))
       obtain⟨hr0,hL80,N,hfine⟩:=HF.out.fine
       have hpg:uM ⟨c,L,N,fuel⟩:=⟨⟨hfine.vp hL80,by show 1≤fuel;omega,by show fuel≤500;omega⟩,hfine⟩;have C2:=HC.out.below HB2.out;have hL0:=hfine.pos
       obtain⟨cb,co,cap2,hv,CL⟩:∃cb co cap2,(Value.slice pc L ax)=.slice (some ⟨cb,co,none⟩) L cap2∧Laid wr cb co L cap2 c:=by
        cases C2 with
        |full cb co cap2 hv CL=>exact ⟨cb,co,cap2,hv,CL⟩
        |bare p cap2 hv hL=>omega
       simp only[Value.slice.injEq,true_and]at hv
       obtain⟨rfl,rfl⟩:=hv
       have HBG:Hid (Calls Tryz.prog 81 #[.slice (some ⟨cb,co,none⟩) L ax,.int .u64 aa,.int .i64 fuel] wr fun e w'=>e=.returned (.pointer (some ⟨wr.heap.size,0,none⟩))∧gD w ⟨c,L,N,fuel⟩ (HS.zero aa) wr.heap.size w'):=(zl wr cb co ax ⟨c,L,N,fuel⟩ hL80 CL aa (by have:=HB2.out.size;omega)).mono (by
        rintro e w' ⟨rfl,B,d,D⟩;have hs:=HB2.out.size
        exact⟨rfl,HB2.out.trans (B.mono hs),_,d,D,fun k hk=>by have:=hk.1;omega⟩)
       have HPG:=hid hpg;clear C2 CL hfine hpg hL0 hL80;go_wp2_with fail
       refine HBG.out.mono ?_;rintro e w2 ⟨rfl,hm⟩;generalize wr.heap.size=Y at*;have HM:=hid hm;clear hm HBG;go_wp2_with fail
       go_loopw [13] (fun i wx=>∃k:Nat,k≤l.length∧i=.int .i64 k∧gD w ⟨c,L,N,fuel⟩ (bX (PG.R ⟨c,L,N,fuel⟩) (HS.zero aa) (l.take k)) Y wx) (fun i _=>l.length-(intOf i).toNat)
       case atStart=>exact ⟨0,by omega,rfl,HM.out⟩
       case round=>
        clear HM
        obtain⟨k,hk,rfl,hm⟩:=hrel
        by_cases hlt:k<l.length
        ·obtain⟨ao',cap',e',_,_,hrow⟩:=(HTL.out wr hm.dY).form
         simp only[Value.slice.injEq,true_and]at e'
         obtain⟨rfl,rfl⟩:=e'
         obtain⟨b,o,rfl,hb,hc⟩:=hrow k hlt
         have ck:=hc k hlt;have hi1:(k:Int)<(l.length:Int):=(by omega);have hts:(bX (PG.R ⟨c,L,N,fuel⟩) (HS.zero aa) (l.take k)).tries≤8:=by
          rw[((tC aa).tries (R:=PG.R ⟨c,L,N,fuel⟩) (l.take k)).2,List.length_take];show 0+_≤_;omega
         have hmem:l.getD k ⟨#[]⟩∈l:=by rw[List.getD_eq_getElem?_getD,List.getElem?_eq_getElem hlt];exact List.getElem_mem hlt
         have HTY:Hid (Calls Tryz.prog 82 #[.pointer (some ⟨Y,0,none⟩),.string (l.getD k ⟨#[]⟩)] wr fun e w'=>(∃x,e=.returned (.int .u8 x))∧gD w ⟨c,L,N,fuel⟩ (bX (PG.R ⟨c,L,N,fuel⟩) (HS.zero aa) (l.take (k+1))) Y w'):=by
          have:=hm.tried HPG.out (jq.tries (PG.mC _) _ _ (nR aa s0 s1) (fun s hs=>HSM.out s (List.mem_of_mem_take hs))) (by omega) _ (HSM.out _ hmem)
          rw[←rj _ _ _ _ hlt]at this;exact this.mono fun e w' ⟨x,y⟩=>⟨⟨_,x⟩,y⟩
         clear hm hc hrow hts hmem;generalize l.getD k ⟨#[]⟩=t at*;go_wp2_with fail
         refine HTY.out.mono ?_;rintro e w3 ⟨⟨x,rfl⟩,hm3⟩;have HM3:Hid _:=hm3;clear hm3 HTY;go_wp2_with fail
         go_roundw
         case rel=>exact ⟨k+1,by omega,by go_num,HM3.out⟩
         case measure=>simp [intOf];omega
        ·obtain rfl:k=l.length:=by omega
         have hnn:¬(l.length:Int)<(l.length:Int):=(by omega);rw[List.take_length]at hm;have HM3:Hid _:=hm;clear hm;generalize hln:l.length=n at*;go_wp2;go_ret2
         exact⟨r,false,HF.out,Or.inr ⟨HX.out,N,Y,HPG.out,rfl,HM3.out⟩⟩
section
variable {w:World} {U:Nat→Prop} {Y:Nat} {d:DD} {g:PG} {h:HS}
theorem DU.changes (p:DU w U Y d g h)(n:Nat):DU (w.setCell ⟨Y,72,none⟩ (.int .i64 (n:Nat))) U Y {d with F:=upd d.F 72 (.int .i64 (n:Nat))} g {h with changes:=n}:=
 p.set 72 rfl _ _ rfl rfl rfl (fun j _=>by
  by_cases e:j=72
  ·subst e;rfl
  ·rw[if_neg e];unfold ja;simp only[if_neg e];rfl)
theorem DU.L3 (p:DU w U Y d g h)(n:Nat):DU (w.setCell ⟨Y,71,none⟩ (.int .i64 (n:Nat))) U Y {d with F:=upd d.F 71 (.int .i64 (n:Nat))} g {h with entry:=n}:=
 p.set 71 rfl _ _ rfl rfl rfl (fun j _=>by
  by_cases e:j=71
  ·subst e;rfl
  ·rw[if_neg e];unfold ja;simp only[if_neg e];rfl)
theorem DU.Fi (p:DU w U Y d g h)(x:Int):DU (w.setCell ⟨Y,2,none⟩ (.int .u64 x)) U Y {d with F:=upd d.F 2 (.int .u64 x)} g {h with aa:=x}:=
 p.set 2 rfl _ _ rfl rfl rfl (fun j _=>by
  by_cases e:j=2
  ·subst e;rfl
  ·rw[if_neg e];unfold ja;simp only[if_neg e];rfl)
theorem DU.work (p:DU w U Y d g h)(b cap:Nat)(hF:d.F 3=.slice (some ⟨b,0,none⟩) h.kept.length cap)(e:Nat)(he:e<h.kept.length):DU (w.setCell ⟨b,e*3+2,none⟩ (.bool true)) U Y {d with X:=upd d.X 3 ((d.X 3).set (e*3+2) (.bool true))} g {h with worked:=fun i=>if i=e then true else h.worked i}:=by
 have hb:(d.F 3).ownBlock=some b:=by rw[hF];rfl
 have hlen:(d.X 3).length=h.kept.length*3:=(p.ob.own 3 rfl).1;have hO:iB gS Y d.F b:=Or.inr ⟨3,rfl,hb⟩;have hk:∀k,¬iB gS Y d.F k→(w.setCell ⟨b,e*3+2,none⟩ (.bool true)).heap[k]?=w.heap[k]?:=fun k hn=>heap_setCell_other w ⟨b,e*3+2,none⟩ k _ (fun c=>hn (by rw[c];exact hO))
 refine⟨p.ob.stored 3 rfl b cap hF _ _,p.val,(au d.X ((d.X 3).set (e*3+2) (.bool true)) (show(4:Nat)≠3 by omega)).trans p.x4,?_⟩
 refine⟨p.dk.code.of_block (hk _ p.dk.dX),p.dk.dX,fun i k hi=> ?_,p.dk.dR,p.dk.kW,fun k hk=>by rw[World.size_setCell];exact p.dk.lt k hk,p.dk.low⟩
 obtain⟨h1,h2,gk,h3,h4,h5,h6⟩:=p.dk.kept i k hi
 have hil:i<h.kept.length:=(List.getElem?_eq_some_iff.1 hi).1
 refine⟨?_,?_,gk,?_,fun q hq=>(World.cell?_of_block (w:=w) (a:=⟨gk,q,none⟩) (hk gk h5)).trans (h4 q hq),h5,h6⟩
 ·dsimp only;rw[upd_same,List.getElem?_set_ne (by omega)];exact h1
 ·dsimp only;rw[upd_same];by_cases c:i=e
  ·subst c;rw[if_pos rfl,List.getElem?_set_self (by omega)]
  ·rw[if_neg c,List.getElem?_set_ne (by omega)];exact h2
 ·dsimp only;rw[upd_same,List.getElem?_set_ne (by omega)];exact h3
end
theorem bu.sm {U:Nat→Prop}{Y:Nat}{g:PG}{h:HS}{w W W':World}(t:bu U Y g h w W)(m:Sm W W'):bu U Y g h w W':=by
 obtain⟨d,p⟩:=t.du
 refine⟨⟨m.os.trans t.fr.os,m.tape.trans t.fr.tape,m.output.trans t.fr.output,by rw[m.heap];exact t.fr.size,fun k hk hn=>by rw[m.heap];exact t.fr.block k hk hn⟩,d,?_⟩
 rw[fR (b:=W) (by rw[m.heap])]
 exact⟨p.ob.same m.heap,p.val,p.x4,p.dk.same m.heap⟩
theorem bu.M8 {U:Nat→Prop}{Y:Nat}{g:PG}{h:HS}{w W:World}(t:bu U Y g h w W)(q:cE g.R h)(hk:0<h.kept.length):Calls Tryz.prog 57 #[.pointer (some ⟨Y,0,none⟩)] W fun e w'=>(∃a c,e=.returned (.slice (some ⟨a,0,none⟩) (bE h.kept).length c)∧a≠Y∧∀i,i<(bE h.kept).length→w'.cell? ⟨a,i,none⟩=some (.int .i64 ((bE h.kept).getD i 0:Nat)))∧bu U Y g h w w':=by
 obtain⟨d,p⟩:=t.du
 refine(mL p (iJ g.mC q) q.most (fun k hk=> ?_)).mono ?_
 ·obtain⟨i,hi⟩:=List.getElem?_of_mem hk
  exact(q.kept i k hi).1
 ·rintro e w' ⟨⟨v,rfl,ho⟩,B⟩;have hne:=List.length_pos_iff.2 (nI q g.mC hk)
  obtain⟨a,c,rfl,hb,_,_,hc⟩:=iG ho hne
  refine⟨⟨a,c,rfl,?_,fun i hi=>hc i _ (by simp[nW,List.getElem?_map,List.getElem?_eq_getElem hi,List.getD_eq_getElem?_getD])⟩,t.then (bu.of p B)⟩
  have:=p.ob.lt
  omega
theorem xz (n:Nat)(l:List Nat)(i:Nat)(hi:i<l.length):((l.drop i).find? fun m=>decide (n<m)).getD (l.headD 0)=if n<l.getD i 0 then l.getD i 0 else((l.drop (i+1)).find? fun m=>decide (n<m)).getD (l.headD 0):=by
 rw[List.drop_eq_getElem_cons hi,List.find?_cons,List.getD_eq_getElem?_getD,List.getElem?_eq_getElem hi,Option.getD_some];by_cases c:n<l[i]
 ·rw[if_pos c,decide_eq_true c];rfl
 ·rw[if_neg c,decide_eq_false c]
def ql:Option Code→Code
 |some (.seq _ (.seq _ (.seq _ (.seq _ (.seq _ (.seq _ c))))))=>c
 |_=>.skip
def sr (Y eb many:Nat)(s:ByteArray)(v5 v9 v10 v11 v12 v13 v14 v15 v16 v17 v18 v19 v20 v21 v22 v23 v24 v25 v26 v27 v28 v29 v30 v31 v32 v33 v34 v35 v36 v37 v38 v39 v40 v41 v42 v43 v44 v45 v46 v47 v48 v49 v50 v51 v52 v53 v54 v55 v56 v57 v58 v59 v60 v61 v62 v63 v64 v65 v66 v67 v68 v69 v70 v71 v72 v73 v74 v75 v76 v77 v78 v79 v80 v81 v82 v83 v84:Value):Act:=⟨#[.pointer (some ⟨Y,0,none⟩),undef,.pointer (some ⟨eb,0,none⟩),.int .i64 (many:Nat),.string s,v5,undef,undef,undef,v9,v10,v11,v12,v13,v14,v15,v16,v17,v18,v19,v20,v21,v22,v23,v24,v25,v26,v27,v28,v29,v30,v31,v32,v33,v34,v35,v36,v37,v38,v39,v40,v41,v42,v43,v44,v45,v46,v47,v48,v49,v50,v51,v52,v53,v54,v55,v56,v57,v58,v59,v60,v61,v62,v63,v64,v65,v66,v67,v68,v69,v70,v71,v72,v73,v74,v75,v76,v77,v78,v79,v80,v81,v82,v83,v84,undef,undef,undef,undef,undef,undef,undef,undef,undef,undef,undef,undef,undef,undef,undef,undef,undef,undef,undef,undef,undef,undef,undef,undef,undef,undef,undef,undef,undef,undef,undef,undef,undef,undef,undef,undef,undef,undef,undef,undef,undef,undef,undef,undef,undef,undef,undef,undef,undef,undef,undef,undef,undef,undef,undef,undef,undef,undef,undef,undef,undef,undef,undef],[]⟩
def Ke (h1:HS):HS:=if h1.changes+1=h1.small+16 then HS.fK {h1 with changes:=h1.changes+1}else{h1 with changes:=h1.changes+1}
def CZ (U:Nat→Prop)(Y:Nat)(g:PG)(h:HS)(w:World):Exit→Act→World→Prop:=bodyPost Tryz.prog Tryz.f45 fun e w'=>e=.returned (.tuple #[])∧bu U Y g h w w'
theorem Fj (w W:World)(U:Nat→Prop)(Y eb:Nat)(g:PG)(h1:HS)(s:ByteArray)(v5 v9 v10 v11 v12 v13 v14 v15 v16 v17 v18 v19 v20 v21 v22 v23 v24 v25 v26 v27 v28 v29 v30 v31 v32 v33 v34 v35 v36 v37 v38 v39 v40 v41 v42 v43 v44 v45 v46 v47 v48 v49 v50 v51 v52 v53 v54 v55 v56 v57 v58 v59 v60 v61 v62 v63 v64 v65 v66 v67 v68 v69 v70 v71 v72 v73 v74 v75 v76 v77 v78 v79 v80 v81 v82 v83 v84:Value)(T:bu U Y g h1 w W)(q:jq g.R h1)(hk:0<h1.kept.length)(hch:h1.changes<h1.small+16)(hsm:h1.small≤10000):(ql Tryz.f45.body).wp Tryz.prog (CZ U Y g (Ke h1) w) (sr Y eb h1.small s v5 v9 v10 v11 v12 v13 v14 v15 v16 v17 v18 v19 v20 v21 v22 v23 v24 v25 v26 v27 v28 v29 v30 v31 v32 v33 v34 v35 v36 v37 v38 v39 v40 v41 v42 v43 v44 v45 v46 v47 v48 v49 v50 v51 v52 v53 v54 v55 v56 v57 v58 v59 v60 v61 v62 v63 v64 v65 v66 v67 v68 v69 v70 v71 v72 v73 v74 v75 v76 v77 v78 v79 v80 v81 v82 v83 v84) W:=by
 obtain⟨d,p⟩:=T.du
 have c72:W.cell? ⟨Y,72,none⟩=some (.int .i64 h1.changes):=p.cell 72 (by omega);have f72:=p.ob.thaw 72;have hY:=p.ob.lt;have p2:DU (W.setCell ⟨Y,72,none⟩ (.int .i64 ((h1.changes:Int)+1))) (Gr U w W) Y {d with F:=upd d.F 72 (.int .i64 ((h1.changes:Int)+1))} g {h1 with changes:=h1.changes+1}:=p.changes (h1.changes+1);have T2:bu U Y g {h1 with changes:=h1.changes+1} w (W.setCell ⟨Y,72,none⟩ (.int .i64 ((h1.changes:Int)+1))):=T.then ⟨Fr.set (p.dk.dR _ (Or.inl rfl)) _ _,_,(jy (Gr U w W) _ _ (World.size_setCell _ _ _)).symm▸p2⟩;have HT2:Hid _:=T2;have HQ:Hid (jq g.R h1):=q;unfold CZ sr;by_cases hc:h1.changes+1<h1.small+16
 ·have hic:(h1.changes:Int)+1<(h1.small:Int)+16:=by omega
  have e:Ke h1={h1 with changes:=h1.changes+1}:=if_neg (by omega);rw[e];clear T2 p2 p T q;generalize h1.small=sm at*;conv=>arg 2;whnf
  go_wp2;refine bodyPost_ret (v:=.tuple #[]) ?_ rfl ⟨rfl,HT2.out⟩;simp[results,Tryz.results45]
 ·have hic:¬(h1.changes:Int)+1<(h1.small:Int)+16:=by omega
  have e:Ke h1=HS.fK {h1 with changes:=h1.changes+1}:=if_pos (by omega);rw[e];have he:=q.pos.entry hk
  obtain⟨b,cap,gk,hF3,hnc,hb,_,_,cw,_,_⟩:=p2.entry h1.entry he
  have c71:(W.setCell ⟨Y,72,none⟩ (.int .i64 ((h1.changes:Int)+1))).cell? ⟨Y,71,none⟩=some (.int .i64 h1.entry):=p2.cell 71 (by omega);have c3:(W.setCell ⟨Y,72,none⟩ (.int .i64 ((h1.changes:Int)+1))).cell? ⟨Y,3,none⟩=some (.slice (some ⟨b,0,none⟩) h1.kept.length cap):=hF3▸p2.ob.cell 3 (by decide);have p3:=p2.work b cap hF3 h1.entry he;have fw:(W.setCell ⟨Y,72,none⟩ (.int .i64 ((h1.changes:Int)+1))).frozen? ⟨b,h1.entry*3+2,none⟩=false:=by
   have:=p2.ob.own 3 rfl
   rw[hF3]at this;exact this.frozenAt _
  have hY2:=p2.ob.lt;have hie:(h1.entry:Int)<(h1.kept.length:Int):=by omega
  have hbU:=p2.dk.dR b (Or.inr ⟨3,rfl,by rw[hF3];rfl⟩);have HT3:Hid (bu U Y g {h1 with changes:=h1.changes+1,worked:=fun i=>if i=h1.entry then true else h1.worked i} w (((W.setCell ⟨Y,72,none⟩ (.int .i64 ((h1.changes:Int)+1))).setCell ⟨b,h1.entry*3+2,none⟩ (.bool true)))):=
   T.then ⟨(Fr.set (p.dk.dR _ (Or.inl rfl)) _ _).same (Fr.set hbU _ _),_,(jy (Gr U w W) _ _ ((World.size_setCell _ _ _).trans (World.size_setCell _ _ _))).symm▸p3⟩
  have hkl:=HQ.out.inv.most;clear T2 p2 p T q p3;generalize h1.small=sm at*;generalize hkn:h1.kept.length=kn at*;conv=>arg 2;whnf
  go_wp2_with fail
  generalize W.setCell ⟨Y,72,none⟩ (.int .i64 ((h1.changes:Int)+1))=W5 at*;have HFV:Hid (∀W6,bu U Y g {h1 with changes:=h1.changes+1,worked:=fun i=>if i=h1.entry then true else h1.worked i} w W6→Calls Tryz.prog 57 #[.pointer (some ⟨Y,0,none⟩)] W6 fun e w'=>(∃a c,e=.returned (.slice (some ⟨a,0,none⟩) (bE h1.kept).length c)∧a≠Y∧∀i,i<(bE h1.kept).length→w'.cell? ⟨a,i,none⟩=some (.int .i64 ((bE h1.kept).getD i 0:Nat)))∧bu U Y g {h1 with changes:=h1.changes+1,worked:=fun i=>if i=h1.entry then true else h1.worked i} w w'):=fun W6 t=>t.M8 (HQ.out.inv.alike ⟨rfl,rfl,rfl⟩) (by show 0<h1.kept.length;omega)
  have hfl:0<(bE h1.kept).length:=List.length_pos_iff.2 (nI HQ.out.inv g.mC (by omega));have hfm:(bE h1.kept).length≤30:=by
   have h1:=List.length_filter_le (fun n=>(cu h1.kept).contains n) (List.range h1.kept.length);rw[List.length_range]at h1;exact Nat.le_trans h1 (by omega)
  have HMV:Hid (∀W7 W8,bu U Y g {h1 with changes:=h1.changes+1,worked:=fun i=>if i=h1.entry then true else h1.worked i} w W7→Sm W7 W8→(W8.cell? ⟨Y,71,none⟩=some (.int .i64 h1.entry)∧W8.cell? ⟨Y,72,none⟩=some (.int .i64 ((h1.changes:Int)+1))∧W8.frozen? ⟨Y,71,none⟩=false∧W8.frozen? ⟨Y,72,none⟩=false∧Y<W8.heap.size)∧bu U Y g (HS.fK {h1 with changes:=h1.changes+1}) w ((W8.setCell ⟨Y,71,none⟩ (.int .i64 (bZ h1.entry (bE h1.kept):Nat))).setCell ⟨Y,72,none⟩ (.int .i64 0))):=fun W7 W8 t m=>by
   have t8:=t.sm m
   obtain⟨d,p⟩:=t8.du
   exact⟨⟨p.cell 71 (by omega),p.cell 72 (by omega),p.ob.thaw 71,p.ob.thaw 72,p.ob.lt⟩,t8.then ⟨(Fr.set (p.dk.dR _ (Or.inl rfl)) _ _).same (Fr.set (p.dk.dR _ (Or.inl rfl)) _ _),_,(jy (Gr U w W8) _ _ ((World.size_setCell _ _ _).trans (World.size_setCell _ _ _))).symm▸((p.L3 (bZ h1.entry (bE h1.kept))).changes 0)⟩⟩
  have HBF:Hid (∀i,i<(bE h1.kept).length→_):=fun i hi=>xz h1.entry (bE h1.kept) i hi
  have HB0:Hid (bZ h1.entry (bE h1.kept)=(((bE h1.kept).drop 0).find? fun m=>decide (h1.entry<m)).getD ((bE h1.kept).headD 0)):=rfl;have HHD:Hid ((bE h1.kept).getD 0 0=(((bE h1.kept).drop (bE h1.kept).length).find? fun m=>decide (h1.entry<m)).getD ((bE h1.kept).headD 0)):=by
   show _=_;rw[List.drop_length]
   cases bE h1.kept<;>rfl
  generalize bZ h1.entry (bE h1.kept)=bs at*;generalize bE h1.kept=fv at*;generalize hfn:fv.length=fn at*;go_region
  all_goals
   go_wp2_with fail
   refine(HFV.out _ ?hd).mono ?_
   case hd=>exact HT3.out.sm ⟨rfl,rfl,rfl,rfl⟩
   rintro e w7 ⟨⟨a,c,rfl,haY,hca⟩,t7⟩;have ca0:=hca 0 hfl;have HCA:=hid hca;have HT7:Hid _:=t7;have hal:=World.block_lt_of_cell? w7 ⟨a,0,none⟩ ca0;clear hca t7 HFV HT3;generalize fv.getD 0 0=x0 at*;go_wp2_with fail
   go_loopw [7,8] (fun nx i wr=>∃k:Nat,k≤fn∧i=.int .i64 ((k:Int)-1)∧nx=.int .i64 ((((fv.drop k).find? fun m=>decide (h1.entry<m)).getD (fv.headD 0):Nat))∧Sm w7 wr) (fun _ i _=>(intOf i+1).toNat)
   case atStart=>exact ⟨fn,by omega,by go_num,by rw[HHD.out],Sm.refl _⟩
   case round=>
    obtain⟨k,hkf,rfl,rfl,S⟩:=hrel
    obtain⟨⟨m71,m72,n71,n72,hYr⟩,hfin⟩:=HMV.out w7 wr HT7.out S
    have HS:=hid S;have HFN:Hid _:=hfin;clear S hfin;by_cases hk0:k=0
    ·subst hk0;rw[HB0.out.symm];go_wp2;go_end0
     exact⟨rfl,HFN.out⟩
    ·obtain⟨j,rfl⟩:∃j,k=j+1:=⟨k-1,by omega⟩
     have hj:j<fn:=(by omega);have hx:((j+1:Nat):Int)-1=(j:Int):=(by omega);rw[hx];have hij:(j:Int)<(fn:Int):=(by omega);have cj:=HS.out.cell (HCA.out j hj);have har:a<wr.heap.size:=by rw[HS.out.heap];exact hal
     have HBJ:=HBF.out j hj;have HBK:Hid _:=HBJ;clear HBJ;generalize fv.getD j 0=x at*
     generalize((fv.drop (j+1)).find? fun m=>decide (h1.entry<m)).getD (fv.headD 0)=y1 at*
     by_cases hxe:h1.entry<x
     ·have hie2:(h1.entry:Int)<(x:Int):=(by omega);rw[if_pos hxe]at HBK;go_wp2_with fail
      go_quiet(fail)
      go_wp2_with fail
      go_roundw
      case rel=>exact ⟨j,by omega,by go_num,by rw[HBK.out],HS.out.drewN _⟩
      case measure=>simp [intOf]<;>omega
     ·have hie2:¬(h1.entry:Int)<(x:Int):=(by omega);rw[if_neg hxe]at HBK;go_wp2_with fail
      go_quiet(fail)
      go_wp2_with fail
      go_roundw
      case rel=>exact ⟨j,by omega,by go_num,by rw[HBK.out],HS.out.drewN _⟩
      case measure=>simp [intOf]<;>omega
theorem Ik (s:ByteArray)(hs:s.size≤24)(n:Nat):((z7 s (n:Nat)).map strOfNums).getD ⟨#[]⟩=strOfNums ((cL (nums s) n).getD []):=by
 unfold z7;rw[if_neg (by omega),Int.toNat_natCast]
 cases cL (nums s) n<;>rfl
structure nX (w W3:World) (U:Nat→Prop) (Y:Nat) (g:PG) (h:HS):Prop where
 doc:bu U Y g {h with aa:=h.aG} w W3
theorem Il {w W3:World}{U:Nat→Prop}{Y:Nat}{g:PG}{h:HS}(a:nX w W3 U Y g h)(hg:uM g)(q:jq g.R h)(ht:h.tries≤4611686018427387900):
  Calls Tryz.prog 82 #[.pointer (some ⟨Y,0,none⟩),.string h.aK] W3 fun e w'=>(∃x,e=.returned (.int .u8 x))∧bu U Y g (aD g.R {h with aa:=h.aG} h.aK).1 w w':=by
 obtain⟨d,p⟩:=a.doc.du
 have q2:jq g.R {h with aa:=h.aG}:=⟨q.inv.alike ⟨rfl,rfl,rfl⟩,⟨q.pos.entry,q.pos.none,q.pos.changes,(eu q.pos).1,(eu q.pos).2⟩,q.wk,q.txt,q.zv⟩
 refine(AO p hg q2 (by show h.tries≤_;omega) h.aK (fc q.inv)).mono ?_
 rintro e w' ⟨rfl,t⟩
 exact⟨⟨_,rfl⟩,a.doc.then t⟩
theorem xC (h:HS)(hs:(h.text h.entry).size≤24):h.small≤800:=by
 unfold HS.small gz;split
 ·omega
 ·split
  ·omega
  ·split<;>omega
theorem Im (w W:World)(U:Nat→Prop)(Y eb:Nat)(g:PG)(h:HS)(s:ByteArray)(v5 v9 v10 v11 v12 v13 v14 v15 v16 v17 v18 v19 v20 v21 v22 v23 v24 v25 v26 v27 v28 v29 v30 v31 v32 v33 v34 v35 v36 v37 v38 v39 v40 v41 v42 v43 v44 v45 v46 v47 v48 v49 v50 v51 v52 v53 v54 v55 v56 v57 v58 v59 v60 v61 v62 v63 v64 v65 v66 v67 v68 v69 v70 v71 v72 v73 v74 v75 v76 v77 v78 v79 v80 v81 v82 v83 v84:Value)(T:bu U Y g (aD g.R {h with aa:=h.aG} h.aK).1 w W)(q:jq g.R h)(hk:0<h.kept.length)(hs:(h.text h.entry).size≤24):(ql Tryz.f45.body).wp Tryz.prog (CZ U Y g (h.one g.R) w) (sr Y eb h.small s v5 v9 v10 v11 v12 v13 v14 v15 v16 v17 v18 v19 v20 v21 v22 v23 v24 v25 v26 v27 v28 v29 v30 v31 v32 v33 v34 v35 v36 v37 v38 v39 v40 v41 v42 v43 v44 v45 v46 v47 v48 v49 v50 v51 v52 v53 v54 v55 v56 v57 v58 v59 v60 v61 v62 v63 v64 v65 v66 v67 v68 v69 v70 v71 v72 v73 v74 v75 v76 v77 v78 v79 v80 v81 v82 v83 v84) W:=by
 have he:=q.pos.entry hk;have q2:jq g.R {h with aa:=h.aG}:=⟨q.inv.alike ⟨rfl,rfl,rfl⟩,⟨q.pos.entry,q.pos.none,q.pos.changes,(eu q.pos).1,(eu q.pos).2⟩,q.wk,q.txt,q.zv⟩;have q3:=q2.tried g.mC h.aK (fc q.inv);have hsm:(aD g.R {h with aa:=h.aG} h.aK).1.small=h.small:=sY g.R {h with aa:=h.aG} _ he;have hg:h.kept.length≤(aD g.R {h with aa:=h.aG} h.aK).1.kept.length:=dG g.R {h with aa:=h.aG} _
 have:=Fj w W U Y eb g _ s v5 v9 v10 v11 v12 v13 v14 v15 v16 v17 v18 v19 v20 v21 v22 v23 v24 v25 v26 v27 v28 v29 v30 v31 v32 v33 v34 v35 v36 v37 v38 v39 v40 v41 v42 v43 v44 v45 v46 v47 v48 v49 v50 v51 v52 v53 v54 v55 v56 v57 v58 v59 v60 v61 v62 v63 v64 v65 v66 v67 v68 v69 v70 v71 v72 v73 v74 v75 v76 v77 v78 v79 v80 v81 v82 v83 v84 T q3 (by omega) q3.pos.changes (by rw[hsm];have:=xC h hs;omega)
 rw[hsm]at this;exact this
def qm:Option Code→Code
 |some (.seq _ (.seq _ (.seq _ (.seq _ (.seq _ c)))))=>c
 |_=>.skip
def sixth:Option Code→Code
 |some (.seq _ (.seq _ (.seq _ (.seq _ (.seq _ (.seq c _))))))=>c
 |_=>.skip
def Jb:Option Code→Code
 |some (.seq _ (.seq _ (.seq _ (.seq _ (.seq (.seq _ (.cond _ _ (.seq _ (.seq _ c)))) _)))))=>c
 |_=>.skip
theorem Fq {P:Program}{a1 a2 a3 a4 a5 a6 a7 a8 z y:Code}{o:Operand}{Q:Exit→Act→World→Prop}{a:Act}{w:World}(Z Y:Code)(hz:Z=z)(hy:Y=y)(h:(Code.seq a1 (.seq a2 (.seq a3 (.seq a4 (.seq (.seq a5 (.cond o a6 (.seq a7 (.seq a8 Z)))) Y))))).wp P Q a w):(Code.seq a1 (.seq a2 (.seq a3 (.seq a4 (.seq (.seq a5 (.cond o a6 (.seq a7 (.seq a8 z)))) y))))).wp P Q a w:=by
 subst hz hy;exact h
theorem Fs (w W:World)(U:Nat→Prop)(Y eb:Nat)(g:PG)(h:HS)(v5 v9 v10 v11 v12 v13 v14 v15 v16 v17 v18 v19 v20 v21 v22 v23 v24 v25 v26 v27 v28 v29 v30 v31 v32 v33 v34 v35 v36 v37 v38 v39 v40 v41 v42 v43 v44 v45 v46 v47 v48 v49 v50 v51 v52 v53 v54 v55 v56 v57 v58 v59 v60 v61 v62 v63 v64 v65 v66 v67 v68 v69 v70 v71 v72 v73 v74 v75 v76 v77 v78 v79 v80 v81:Value)(A:nX w W U Y g h)(hg:uM g)(q:jq g.R h)(hk:0<h.kept.length)(ht:h.tries≤4611686018427387900)(hs:(h.text h.entry).size≤24):(qm Tryz.f45.body).wp Tryz.prog (CZ U Y g (h.one g.R) w) (sr Y eb h.small h.aK v5 v9 v10 v11 v12 v13 v14 v15 v16 v17 v18 v19 v20 v21 v22 v23 v24 v25 v26 v27 v28 v29 v30 v31 v32 v33 v34 v35 v36 v37 v38 v39 v40 v41 v42 v43 v44 v45 v46 v47 v48 v49 v50 v51 v52 v53 v54 v55 v56 v57 v58 v59 v60 v61 v62 v63 v64 v65 v66 v67 v68 v69 v70 v71 v72 v73 v74 v75 v76 v77 v78 v79 v80 v81 undef undef undef) W:=by
 have e:qm Tryz.f45.body=Code.seq (sixth Tryz.f45.body) (ql Tryz.f45.body):=by kernel_rfl
 rw[e];refine wp_seq ?_;have HTY:=hid (Il A hg q ht);have HEND:Hid (∀(W:World) (v5 v9 v10 v11 v12 v13 v14 v15 v16 v17 v18 v19 v20 v21 v22 v23 v24 v25 v26 v27 v28 v29 v30 v31 v32 v33 v34 v35 v36 v37 v38 v39 v40 v41 v42 v43 v44 v45 v46 v47 v48 v49 v50 v51 v52 v53 v54 v55 v56 v57 v58 v59 v60 v61 v62 v63 v64 v65 v66 v67 v68 v69 v70 v71 v72 v73 v74 v75 v76 v77 v78 v79 v80 v81 v82 v83 v84:Value),bu U Y g (aD g.R {h with aa:=h.aG} h.aK).1 w W→(ql Tryz.f45.body).wp Tryz.prog (CZ U Y g (h.one g.R) w) (sr Y eb h.small h.aK v5 v9 v10 v11 v12 v13 v14 v15 v16 v17 v18 v19 v20 v21 v22 v23 v24 v25 v26 v27 v28 v29 v30 v31 v32 v33 v34 v35 v36 v37 v38 v39 v40 v41 v42 v43 v44 v45 v46 v47 v48 v49 v50 v51 v52 v53 v54 v55 v56 v57 v58 v59 v60 v61 v62 v63 v64 v65 v66 v67 v68 v69 v70 v71 v72 v73 v74 v75 v76 v77 v78 v79 v80 v81 v82 v83 v84) W):=fun W v5 v9 v10 v11 v12 v13 v14 v15 v16 v17 v18 v19 v20 v21 v22 v23 v24 v25 v26 v27 v28 v29 v30 v31 v32 v33 v34 v35 v36 v37 v38 v39 v40 v41 v42 v43 v44 v45 v46 v47 v48 v49 v50 v51 v52 v53 v54 v55 v56 v57 v58 v59 v60 v61 v62 v63 v64 v65 v66 v67 v68 v69 v70 v71 v72 v73 v74 v75 v76 v77 v78 v79 v80 v81 v82 v83 v84 T=>Im w W U Y eb g h h.aK v5 v9 v10 v11 v12 v13 v14 v15 v16 v17 v18 v19 v20 v21 v22 v23 v24 v25 v26 v27 v28 v29 v30 v31 v32 v33 v34 v35 v36 v37 v38 v39 v40 v41 v42 v43 v44 v45 v46 v47 v48 v49 v50 v51 v52 v53 v54 v55 v56 v57 v58 v59 v60 v61 v62 v63 v64 v65 v66 v67 v68 v69 v70 v71 v72 v73 v74 v75 v76 v77 v78 v79 v80 v81 v82 v83 v84 T q hk hs
 unfold sr at HEND⊢;clear A hg q;generalize h.small=sm at*;conv=>arg 2;whnf
 go_wp2_with fail
 refine HTY.out.mono ?_;rintro e w4 ⟨⟨x,rfl⟩,t4⟩;have HT4:Hid _:=t4;clear t4;go_wp2_with fail
 exact HEND.out w4 _ _ _ _ _ _ _ _ _ _ _ _ _ _ _ _ _ _ _ _ _ _ _ _ _ _ _ _ _ _ _ _ _ _ _ _ _ _ _ _ _ _ _ _ _ _ _ _ _ _ _ _ _ _ _ _ _ _ _ _ _ _ _ _ _ _ _ _ _ _ _ _ _ _ _ _ _ HT4.out
end Go.Proofs.YtmpgjkhchfcjlaaGreatDoor
