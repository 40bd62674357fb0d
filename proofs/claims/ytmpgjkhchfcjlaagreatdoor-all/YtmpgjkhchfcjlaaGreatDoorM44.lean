import Derived.Test.YtmpgjkhchfcjlaaGreatDoorM43
namespace Go.Proofs.YtmpgjkhchfcjlaaGreatDoor
open Go.RowKit
set_option maxRecDepth 100000
set_option maxHeartbeats 8000000
theorem oP (w W:World)(U:Nat→Prop)(Y eb:Nat)(g:PG)(h:HS)(sm:Nat)(hsm:h.small=sm)(v5 v9 v10 v11 v12 v13 v14 v15 v16 v17 v18 v19 v20 v21 v22 v23 v24 v25 v26 v27 v28 v29 v30 v31 v32 v33 v34 v35 v36 v37 v38 v39 v40 v41 v42 v43 v44 v45 v46 v47 v48 v49 v50 v51 v52 v53 v54 v55 v56 v57 v58 v59 v60 v61 v62 v63 v64 v65 v66 v67 v68 v69 v70 v71 v72 v73 v74 v75 v76 v77 v78 v79 v80 v81:Value)(A:nX w W U Y g h)(hg:uM g)(q:jq g.R h)(hk:0<h.kept.length)(ht:h.tries≤4611686018427387900)(hs:(h.text h.entry).size≤24):(qm Tryz.f45.body).wp Tryz.prog (CZ U Y g (h.one g.R) w) (sr Y eb sm h.aK v5 v9 v10 v11 v12 v13 v14 v15 v16 v17 v18 v19 v20 v21 v22 v23 v24 v25 v26 v27 v28 v29 v30 v31 v32 v33 v34 v35 v36 v37 v38 v39 v40 v41 v42 v43 v44 v45 v46 v47 v48 v49 v50 v51 v52 v53 v54 v55 v56 v57 v58 v59 v60 v61 v62 v63 v64 v65 v66 v67 v68 v69 v70 v71 v72 v73 v74 v75 v76 v77 v78 v79 v80 v81 undef undef undef) W:=by
 subst hsm;exact Fs w W U Y eb g h v5 v9 v10 v11 v12 v13 v14 v15 v16 v17 v18 v19 v20 v21 v22 v23 v24 v25 v26 v27 v28 v29 v30 v31 v32 v33 v34 v35 v36 v37 v38 v39 v40 v41 v42 v43 v44 v45 v46 v47 v48 v49 v50 v51 v52 v53 v54 v55 v56 v57 v58 v59 v60 v61 v62 v63 v64 v65 v66 v67 v68 v69 v70 v71 v72 v73 v74 v75 v76 v77 v78 v79 v80 v81 A hg q hk ht hs
theorem Fv {w:World}{U:Nat→Prop}{Y:Nat}{d:DD}{g:PG}{h:HS}(p:DU w U Y d g h)(hg:uM g)(q:jq g.R h)(hk:0<h.kept.length)(ht:h.tries≤4611686018427387900):
  Calls Tryz.prog 45 #[.pointer (some ⟨Y,0,none⟩)] w fun e w'=>e=.returned (.tuple #[])∧bu U Y g (h.one g.R) w w':=by
 have he:=q.pos.entry hk
 obtain⟨b,cap,gk,hF3,hnc,hb,ct,cc,cw,hgk,_⟩:=p.entry h.entry he
 have c71:w.cell? ⟨Y,71,none⟩=some (.int .i64 h.entry):=p.cell 71 (by omega);have c3:w.cell? ⟨Y,3,none⟩=some (.slice (some ⟨b,0,none⟩) h.kept.length cap):=hF3▸p.ob.cell 3 (by decide);have hie:(h.entry:Int)<(h.kept.length:Int):=by omega
 have hY:=p.ob.lt;have hte:∀k,k<h.kept.length→(h.kept.getD k fV).text=h.text k:=fun k hk=>by
  unfold HS.text;rw[List.getD_eq_getElem?_getD,List.getElem?_eq_getElem hk];rfl
 have hsz:∀k,(h.text k).size≤24:=fun k=>by
  by_cases c:k<h.kept.length
  ·rw[←hte k c,List.getD_eq_getElem?_getD,List.getElem?_eq_getElem c]
   exact(q.inv.kept k _ (List.getElem?_eq_getElem c)).1
  ·unfold HS.text;rw[List.getElem?_eq_none (by omega)];exact Nat.zero_le _
 rw[hte _ he]at ct;have hk30:=q.inv.most;have hch:=q.pos.changes;have hse:=xC h (hsz _);have HP:Hid (DU w U Y d g h):=p;have HQ:Hid (uM g∧jq g.R h):=⟨hg,q⟩;have HTX:Hid (∀k,k<h.kept.length→∀W,Below w.heap.size w W→W.cell? ⟨b,k*3,none⟩=some (.string (h.text k))):=fun k hk W B=>by
  obtain⟨b2,cap2,gk2,e3,_,hb2,ct2,_⟩:=p.entry k hk
  rw[hF3]at e3;simp only[Value.slice.injEq,Option.some.injEq,Addr.mk.injEq,true_and,and_true]at e3
  obtain⟨rfl,rfl⟩:=e3
  rw[hte k hk]at ct2
  exact(B.cell (p:=⟨b,k*3,none⟩) hb2).trans ct2
 have hs0:=q.pos.pF;have hs1:=q.pos.pG;have HTE:Hid ((h.text h.entry).size≤24):=hsz _;have HSZ:Hid (∀k,(h.text k).size≤24):=hsz;clear p hg q hte;go_in;refine Fq (Jb Tryz.f45.body) (qm Tryz.f45.body) (by kernel_rfl) (by kernel_rfl) ?_;go_wp2_with fail
 go_region
 have B1:Below w.heap.size w (w.alloc (.cells #[.string (h.text h.entry),.slice (some ⟨gk,0,none⟩) 64 64,.bool (h.worked h.entry)] 149)).drew:=((Below.refl _ _).alloc (Nat.le_refl _) _).drew;have hbk:(w.alloc (.cells #[.string (h.text h.entry),.slice (some ⟨gk,0,none⟩) 64 64,.bool (h.worked h.entry)] 149)).drew.heap[w.heap.size]?=some (.cells #[.string (h.text h.entry),.slice (some ⟨gk,0,none⟩) 64 64,.bool (h.worked h.entry)] 149 (0,0)):=heap_alloc_new w _;have e0:(w.alloc (.cells #[.string (h.text h.entry),.slice (some ⟨gk,0,none⟩) 64 64,.bool (h.worked h.entry)] 149)).drew.cell? ⟨w.heap.size,0,none⟩=some (.string (h.text h.entry)):=cell_of_row _ _ _ _ _ _ hbk;have e2:(w.alloc (.cells #[.string (h.text h.entry),.slice (some ⟨gk,0,none⟩) 64 64,.bool (h.worked h.entry)] 149)).drew.cell? ⟨w.heap.size,2,none⟩=some (.bool (h.worked h.entry)):=cell_of_row _ _ _ _ _ _ hbk;have hl1:w.heap.size<(w.alloc (.cells #[.string (h.text h.entry),.slice (some ⟨gk,0,none⟩) 64 64,.bool (h.worked h.entry)] 149)).drew.heap.size:=(Array.getElem?_eq_some_iff.1 hbk).1
 generalize(w.alloc (.cells #[.string (h.text h.entry),.slice (some ⟨gk,0,none⟩) 64 64,.bool (h.worked h.entry)] 149)).drew=W1 at*
 have p1:=HP.out.gr B1;have d72:W1.cell? ⟨Y,72,none⟩=some (.int .i64 h.changes):=p1.cell 72 (by omega);have d2:W1.cell? ⟨Y,2,none⟩=some (.int .u64 h.aa):=p1.cell 2 (by omega);have d3:W1.cell? ⟨Y,3,none⟩=some (.slice (some ⟨b,0,none⟩) h.kept.length cap):=hF3▸p1.ob.cell 3 (by decide);have f2:=p1.ob.thaw 2;have hY1:=p1.ob.lt;have hYb:Y≠w.heap.size:=by omega
 have HP1:Hid (DU W1 (Gr U w W1) Y d g h):=p1;have HB1:Hid (Below w.heap.size w W1):=B1;have HCH:Hid (∀W,Calls Tryz.prog 89 #[.int .i64 ((h.text h.entry).size:Nat)] W fun e w'=>e=.returned (.int .i64 (gz (h.text h.entry).size:Nat))∧w'=W):=fun W=>uB W _ (hsz _)
 clear p1 B1 hbk ct cc cw c71 c3 hgk;generalize hebn:w.heap.size=eb at*;by_cases hcs:h.changes<h.small
 ·have hw:h.worked h.entry=false:=by
   cases c:h.worked h.entry with
   |false=>rfl
   |true=>unfold HS.small at hcs;rw[c]at hcs;simp at hcs
  have hsm:gz (h.text h.entry).size=h.small:=by unfold HS.small;rw[hw];rfl
  have hct:h.aK=strOfNums ((cL (nums (h.text h.entry)) h.changes).getD []):=by unfold HS.aK;rw[if_pos hcs]
  have hcd:h.aG=h.aa:=by unfold HS.aG;rw[if_pos hcs]
  rw[hw]at e2;rw[hsm]at HCH;have his:(h.changes:Int)<(h.small:Int):=by omega
  have HMU:Hid (∀W,Calls Tryz.prog 33 #[.string (h.text h.entry),.int .i64 (h.changes:Nat)] W fun e w'=>(∃bo,e=.returned (.tuple #[.string h.aK,.bool bo]))∧Below W.heap.size W w'):=fun W=>(pM W _ (by have:=hsz h.entry;omega) h.changes (by omega) (by omega)).mono (by
   rintro e w' ⟨B,rfl⟩;rw[Ik _ (hsz _),←hct]
   exact⟨⟨_,rfl⟩,B⟩)
  have HOA:Hid (∀W,Below W1.heap.size W1 W→nX w W U Y g h):=fun W B=>⟨by
   have:bu U Y g h w W:=bu.of HP.out ((hebn▸HB1.out).trans (B.mono (by have:=HB1.out.size;omega)))
   rw[show({h with aa:=h.aG}:HS)=h by rw[hcd]];exact this⟩
  clear hsm hct hcd hw hcs;generalize hsz1:(h.text h.entry).size=sz at*;go_wp2_with fail
  refine(HCH.out _).mono ?_
  rintro e w2 ⟨rfl,hw2⟩;obtain rfl:=hw2.symm;go_wp2_with fail
  go_region_with(go_at_call 33;refine(HMU.out _).mono ?_;rintro e w3 ⟨⟨bo,rfl⟩,B3⟩;have HA3:Hid (nX w w3 U Y g h):=HOA.out w3 ⟨B3.os,B3.tape,B3.output,B3.size,B3.block⟩;clear B3)
  all_goals
   go_wp2_with fail
   exact oP w _ U Y eb g h h.small rfl _ _ _ _ _ _ _ _ _ _ _ _ _ _ _ _ _ _ _ _ _ _ _ _ _ _ _ _ _ _ _ _ _ _ _ _ _ _ _ _ _ _ _ _ _ _ _ _ _ _ _ _ _ _ _ _ _ _ _ _ _ _ _ _ _ _ _ _ _ _ _ _ _ _ HA3.out HQ.out.1 HQ.out.2 hk ht (by rw[hsz1];exact HTE.out)
 ·have hct:h.aK=strOfNums h.lq.1:=by unfold HS.aK;rw[if_neg hcs]
  have hcd:h.aG=h.lq.2:=by unfold HS.aG;rw[if_neg hcs]
  have hn1:=dP h.aa h.kept.length hk;have hx1:=iA h.aa;have HDR:Hid (∀W,Calls Tryz.prog 73 #[.int .u64 h.aa,.int .i64 (h.kept.length:Nat)] W (gF W (dr h.aa h.kept.length) (sd h.aa))):=fun W=>rB W h.aa hs0 hs1 _ hk (by omega)
  have HWI:Hid (∀W,Calls Tryz.prog 35 #[.string (h.text h.entry),.string (h.text (dr h.aa h.kept.length)),.int .u64 (sd h.aa)] W (bU W h.aK h.aG)):=fun W=>by
   rw[hct,hcd];exact tE W _ _ (hsz _) (hsz _) _ hx1.1 hx1.2
  have Y2:bu U Y g {h with aa:=sd h.aa} w ((W1.setCell ⟨Y,2,none⟩ (.int .u64 (sd h.aa))).drew):=by
   have t:bu U Y g h w W1:=bu.of HP.out (hebn▸HB1.out)
   obtain⟨d',p'⟩:=t.du
   exact(t.then ⟨Fr.set (p'.dk.dR _ (Or.inl rfl)) _ _,_,(jy (Gr U w W1) _ _ (World.size_setCell _ _ _)).symm▸p'.Fi (sd h.aa)⟩).sm ⟨rfl,rfl,rfl,rfl⟩
  have HOA:Hid (∀W,Below ((W1.setCell ⟨Y,2,none⟩ (.int .u64 (sd h.aa))).drew).heap.size ((W1.setCell ⟨Y,2,none⟩ (.int .u64 (sd h.aa))).drew) W→(W.cell? ⟨Y,2,none⟩=some (.int .u64 (sd h.aa))∧W.frozen? ⟨Y,2,none⟩=false∧Y<W.heap.size)∧nX w (W.setCell ⟨Y,2,none⟩ (.int .u64 h.aG)) U Y g h):=fun W B=>by
   obtain⟨d',p'⟩:=Y2.du
   have t3:=Y2.then (bu.of p' B)
   obtain⟨d3,p3⟩:=t3.du
   exact⟨⟨p3.cell 2 (by omega),p3.ob.thaw 2,p3.ob.lt⟩,⟨t3.then ⟨Fr.set (p3.dk.dR _ (Or.inl rfl)) _ _,_,(jy (Gr U w W) _ _ (World.size_setCell _ _ _)).symm▸p3.Fi h.aG⟩⟩⟩
  have g3:((W1.setCell ⟨Y,2,none⟩ (.int .u64 (sd h.aa))).drew).cell? ⟨Y,3,none⟩=some (.slice (some ⟨b,0,none⟩) h.kept.length cap):=(World.cell?_setCell_other _ _ _ _ (by simp)).trans d3;have hbY:b≠Y:=fun c=>HP.out.ob.nM 3 rfl (by rw[hF3,c];rfl)
  have gt:((W1.setCell ⟨Y,2,none⟩ (.int .u64 (sd h.aa))).drew).cell? ⟨b,dr h.aa h.kept.length*3,none⟩=some (.string (h.text (dr h.aa h.kept.length))):=(World.cell?_setCell_other _ _ _ _ (fun c=>hbY (by injection c with c1 _ _;exact c1.symm))).trans (HTX.out _ hn1 _ HB1.out);have g0:((W1.setCell ⟨Y,2,none⟩ (.int .u64 (sd h.aa))).drew).cell? ⟨eb,0,none⟩=some (.string (h.text h.entry)):=(World.cell?_setCell_other _ _ _ _ (fun c=>hYb (by injection c with c1 _ _))).trans e0;have g2:((W1.setCell ⟨Y,2,none⟩ (.int .u64 (sd h.aa))).drew).cell? ⟨Y,2,none⟩=some (.int .u64 (sd h.aa)):=World.cell?_setCell_same _ _ _ d2;have hin:((dr h.aa h.kept.length:Nat):Int)<(h.kept.length:Int):=by omega
  have hYl:Y<((W1.setCell ⟨Y,2,none⟩ (.int .u64 (sd h.aa))).drew).heap.size:=by show Y<(W1.setCell _ _).heap.size;rw[World.size_setCell];exact hY1
  have hel:eb<((W1.setCell ⟨Y,2,none⟩ (.int .u64 (sd h.aa))).drew).heap.size:=by show eb<(W1.setCell _ _).heap.size;rw[World.size_setCell];exact hl1
  have HWA:Hid (Fu w ((W1.setCell ⟨Y,2,none⟩ (.int .u64 (sd h.aa))).drew) U Y eb b cap g h (dr h.aa h.kept.length) (sd h.aa) (h.text (dr h.aa h.kept.length))):=⟨g0,g2,g3,gt,hn1,hYl,hel,HWI.out,HOA.out⟩;clear hct hcd hx1 Y2 hsz HTX HOA HWI g0 g2 g3 gt;generalize h.text (dr h.aa h.kept.length)=tn at*;generalize dr h.aa h.kept.length=n1 at*;generalize sd h.aa=x1 at*;generalize hsz1:(h.text h.entry).size=sz at*
  cases hw:h.worked h.entry
  case' true=>
   rw[hw]at e2;have hsm0:h.small=0:=by unfold HS.small;rw[hw];rfl
   have hc0:¬(h.changes:Int)<0:=(by omega);go_wp2_with fail
  case' false=>
   rw[hw]at e2;have hsm0:gz (h.text h.entry).size=h.small:=by unfold HS.small;rw[hw];rfl
   rw[hsz1]at hsm0;rw[hsm0]at HCH;have hc0:¬(h.changes:Int)<(h.small:Int):=(by omega);go_wp2_with fail
   refine(HCH.out _).mono ?_
   rintro e w2 ⟨rfl,hw2⟩;obtain rfl:=hw2.symm;go_wp2_with fail
  all_goals
   go_region_with(go_at_call 73;refine(HDR.out _).mono ?_;rintro e w2 ⟨rfl,hw2⟩;obtain rfl:=hw2.symm)
   all_goals
    go_wp2_with fail
    first
     |refine Jc _ _ w _ U Y eb b cap g h n1 0 x1 tn _ _ _ _ _ _ _ _ _ _ _ _ _ _ _ _ _ _ _ _ _ _ _ _ _ _ _ _ _ _ _ _ _ _ _ _ _ _ _ _ _ _ _ _ _ _ _ _ _ _ _ _ HWA.out ?_
     |refine Jc _ _ w _ U Y eb b cap g h n1 h.small x1 tn _ _ _ _ _ _ _ _ _ _ _ _ _ _ _ _ _ _ _ _ _ _ _ _ _ _ _ _ _ _ _ _ _ _ _ _ _ _ _ _ _ _ _ _ _ _ _ _ _ _ _ _ HWA.out ?_
    intro W3 y61 y62 y63 y64 y65 y66 y67 y68 y69 y70 y71 y72 y73 y74 y75 y76 y77 y78 y79 y80 y81 A3;go_wp2_with fail
    first
     |exact oP w W3 U Y eb g h 0 hsm0 _ _ _ _ _ _ _ _ _ _ _ _ _ _ _ _ _ _ _ _ _ _ _ _ _ _ _ _ _ _ _ _ _ _ _ _ _ _ _ _ _ _ _ _ _ _ _ _ _ _ _ _ _ _ _ _ _ _ _ _ _ _ _ _ _ _ _ _ _ _ _ _ _ _ A3 HQ.out.1 HQ.out.2 hk ht (by rw[hsz1];exact HTE.out)
     |exact oP w W3 U Y eb g h h.small rfl _ _ _ _ _ _ _ _ _ _ _ _ _ _ _ _ _ _ _ _ _ _ _ _ _ _ _ _ _ _ _ _ _ _ _ _ _ _ _ _ _ _ _ _ _ _ _ _ _ _ _ _ _ _ _ _ _ _ _ _ _ _ _ _ _ _ _ _ _ _ _ _ _ _ A3 HQ.out.1 HQ.out.2 hk ht (by rw[hsz1];exact HTE.out)
def zJ (h:HS)(n:Int):Int:=if n<1∨2000<n then 2 else if h.kept.length=0 then 4 else 0
noncomputable def AV (R:ByteArray→Sh)(h:HS)(n:Int):HS:=if zJ h n=0 then h.go R n.toNat else h
theorem nY (R:ByteArray→Sh)(h:HS):∀n,(h.go R n).tries=h.tries+n
 |0=>rfl
 |n+1=>by
  show(HS.one R (h.go R n)).tries=_
  rw[tD,nY R h n];omega
theorem Io {w:World}{U:Nat→Prop}{Y:Nat}{d:DD}{g:PG}{h:HS}(p:DU w U Y d g h)(hg:uM g)(q:jq g.R h)(ht:h.tries≤4611686018427380000)(n:Int):
  Calls Tryz.prog 15 #[.pointer (some ⟨Y,0,none⟩),.int .i64 n] w fun e w'=>e=.returned (.int .i64 (zJ h n))∧bu U Y g (AV g.R h n) w w':=by
 obtain⟨ao,cap,hF3⟩:=p.head
 have c3:=hF3▸p.ob.cell 3 (by decide);have hY:=p.ob.lt;have H0:Hid (bu U Y g h w w):=bu.of p (Below.refl _ _);have HP:=hid p;by_cases h1:n<1
 ·have e:zJ h n=2:=if_pos (Or.inl h1);have e2:AV g.R h n=h:=if_neg (by rw[e];decide);rw[e,e2];go_in;go_wp2;go_ret
  exact⟨rfl,H0.out⟩
 ·by_cases h2:2000<n
  ·have e:zJ h n=2:=if_pos (Or.inr h2);have e2:AV g.R h n=h:=if_neg (by rw[e];decide);rw[e,e2];go_in;go_wp2;go_ret
   exact⟨rfl,H0.out⟩
  ·have eE:zJ h n=if h.kept.length=0 then 4 else 0:=if_neg (by omega)
   by_cases hk:h.kept.length=0
   ·have e:=eE.trans (if_pos hk);have e2:AV g.R h n=h:=if_neg (by rw[e];decide);rw[e,e2];rw[hk]at c3;go_in;go_wp2;go_ret
    exact⟨rfl,H0.out⟩
   ·have e:=eE.trans (if_neg hk);have e2:AV g.R h n=h.go g.R n.toNat:=if_pos e;rw[e,e2]
    obtain⟨m,rfl⟩:∃m:Nat,n=m:=⟨n.toNat,by omega⟩
    rw[Int.toNat_natCast];have qk:((h.kept.length:Int)==0)=false:=by rw[beq_eq_false_iff_ne];omega
    have HQ:Hid (uM g∧jq g.R h):=⟨hg,q⟩;have HKK:Hid (0<h.kept.length):=by show 0<_;omega
    clear p hg q e e2 eE hF3;generalize h.kept.length=kn at c3 qk;go_in;go_wp2_with fail
    go_loopw [5] (fun i wr=>∃k:Nat,k≤m∧i=.int .i64 k∧bu U Y g (h.go g.R k) w wr) (fun i _=>m-(intOf i).toNat)
    case atStart=>exact ⟨0,by omega,rfl,H0.out⟩
    case round=>
     obtain⟨k,hkm,rfl,t⟩:=hrel
     have HT:=hid t;by_cases hlt:k<m
     ·have hi1:(k:Int)<(m:Int):=(by omega);have HON:Hid (Calls Tryz.prog 45 #[.pointer (some ⟨Y,0,none⟩)] wr fun e w'=>e=.returned (.tuple #[])∧bu U Y g (h.go g.R (k+1)) w w'):=by
       obtain⟨d',p'⟩:=t.du
       have hpos:=Hpos.go HQ.out.2.pos HQ.out.2.inv g.mC HKK.out k
       refine(Fv p' HQ.out.1 (HQ.out.2.go g.mC HKK.out k) hpos.2 (by rw[nY];omega)).mono ?_
       rintro e w' ⟨rfl,t'⟩
       exact⟨rfl,t.then t'⟩
      clear t;go_wp2_with fail
      refine HON.out.mono ?_;rintro e w2 ⟨rfl,t2⟩;have HT2:Hid _:=t2;clear t2 HON HT;go_wp2_with fail
      go_roundw
      case rel=>exact ⟨k+1,by omega,by go_num,HT2.out⟩
      case measure=>simp [intOf];omega
     ·obtain rfl:k=m:=by omega
      have hnn:¬(k:Int)<(k:Int):=(by omega);clear t;go_wp2;go_ret
      exact⟨rfl,HT.out⟩
def mM (l:List ByteArray):List Value:=l.map fun s=>.string s
theorem D6 {w:World}{U:Nat→Prop}{Y:Nat}{d:DD}{g:PG}{h:HS}(p:DU w U Y d g h)(h30:h.kept.length≤30):
  Calls Tryz.prog 50 #[.pointer (some ⟨Y,0,none⟩)] w fun e w'=>(∃v,e=.returned v∧w'.ownsRow w.heap.size 9 1 v h.kept.length (mM (h.kept.map (·.text))))∧Below w.heap.size w w':=by
 obtain⟨i1,hi1,hz10,hz11,hz12⟩:=bB (t:=9) (z:=some (.string ⟨#[]⟩)) (s:=1) (b:=16) (by kernel_rfl)
 obtain⟨ao,cap,hF3⟩:=p.head
 obtain⟨tl,htl⟩:∃tl,h.kept.map (·.text)=tl:=⟨_,rfl⟩
 rw[htl];have HTL:Hid (∀m,m<h.kept.length→tl[m]?=some (h.kept.getD m fV).text):=fun m hm=>by rw[←htl,List.getElem?_map,List.getElem?_eq_getElem hm,List.getD_eq_getElem?_getD,List.getElem?_eq_getElem hm];rfl
 have htn:tl.length=h.kept.length:=by rw[←htl,List.length_map]
 clear htl;have c3:=hF3▸p.ob.cell 3 (by decide);have hY:=p.ob.lt;have HP:=hid p;have HF3:=hid hF3;clear p hF3;go_in;go_wp2_with fail
 go_loopw [3,4] (fun out i wr=>∃m:Nat,m≤h.kept.length∧i=.int .i64 m∧Below w.heap.size w wr∧wr.ownsRow w.heap.size 9 1 out m (mM (tl.take m))) (fun _ i _=>h.kept.length-(intOf i).toNat)
 case atStart=>exact ⟨0,by omega,rfl,Below.refl _ _,World.ownsRow_nil _ _ _ _⟩
 case round=>
  obtain⟨m,hm,rfl,B,ho⟩:=hrel
  have c3x:=(B.cell (p:=⟨Y,3,none⟩) hY).trans c3;have hbx:=B.size;have hYx:Y<wr.heap.size:=by omega
  obtain⟨a3,k3,hu3⟩:∃a c,u3=.slice a m c:=by
   rcases aO ho with⟨e1,e2⟩|⟨b,c,e1,_⟩
   ·exact⟨none,0,by rw[e2];exact e1⟩
   ·exact⟨_,_,e1⟩
  subst hu3;have HB:=hid B;by_cases hlm:m<h.kept.length
  ·obtain⟨b,cap',gk,e3,hnc,hb,ct,_⟩:=HP.out.entry m hlm
   rw[HF3.out]at e3;simp only[Value.slice.injEq,true_and]at e3
   obtain⟨rfl,rfl⟩:=e3
   have ct':=(B.cell (p:=⟨b,m*3,none⟩) hb).trans ct;have him:(m:Int)<(h.kept.length:Int):=(by omega);have HN:Hid (mM (tl.take (m+1))=mM (tl.take m)++[.string (h.kept.getD m fV).text]):=by
    show _=_;rw[List.take_add_one,HTL.out m hlm];simp only[mM,List.map_append,Option.toList_some,List.map_cons,List.map_nil]
   have HO:=hid ho;clear B ho ct
   generalize(h.kept.getD m fV).text=tm at*
   go_wp2_with(at_builtin;refine wpList_append_own_at _ rfl (.tmp 14) (.tmp 23) 41 rfl w.heap.size 9 i1 (.string ⟨#[]⟩) 1 16 Tryz.underlying41 hi1 hz10 hz11 hz12 rfl (by decide) _ m _ rfl (HO.out.alloc _) ⟨_,0,none⟩ 1 1 [.string tm] rfl rfl (cell_one_new _ _ _) ?c2 (by unfold maxLen;omega) (by omega) (by simp;omega) ?_)
   case c2=>first|rfl|(intro u hu;simp at hu;subst hu;rfl)
   intro v' w6 ho6 hg6 _ hat6;have HB6:Hid (Below w.heap.size w w6):=(HB.out.alloc hbx _).grown hg6 (by simp;omega) (fun k hk=>(HO.out.lt k hk).1);have HO6:Hid (w6.ownsRow w.heap.size 9 1 v' (m+1) (mM (tl.take (m+1)))):=by
    show w6.ownsRow w.heap.size 9 1 v' _ _;rw[HN.out];exact ho6
   clear ho6 hg6 hat6;go_wp2_with fail
   go_roundw
   case rel=>exact ⟨m+1,by omega,by go_num,HB6.out,HO6.out⟩
   case measure=>simp [intOf];omega
  ·obtain rfl:m=h.kept.length:=by omega
   have hnn:¬(h.kept.length:Int)<(h.kept.length:Int):=(by omega);rw[List.take_of_length_le (by omega)]at ho;have HO:Hid _:=ho;clear B ho;go_wp2_with fail
   go_ret
   exact⟨⟨_,rfl,HO.out⟩,HB.out⟩
theorem rD {s:ByteArray}(h:s.size<2):dJ (nums s)=none:=by
 have hl:=af s;unfold dJ;split
 ·rename_i e;rw[e]at hl;simp at hl;omega
 ·rfl
theorem tF {s:ByteArray}(h:2≤s.size):nums s=(nums s).getD 0 0::(nums s).getD 1 0::nums (s.extract 2 s.size):=by
 have hl:=af s;rw[aU,List.take_of_length_le (by simp[hl])];match e:nums s,hl with
 |[],hl=>simp at hl;omega
 |[_],hl=>simp at hl;omega
 |a::b::l,_=>rfl
theorem D7 {s:ByteArray}(h:2≤s.size)(h0:(nums s).getD 0 0=113∨(nums s).getD 0 0=99)(h1:(nums s).getD 1 0=32):dJ (nums s)=(jg (s.extract 2 s.size)).map fun t=>(decide ((nums s).getD 0 0=113),t):=by
 have e:=tF h;have hl:(nums (s.extract 2 s.size)).length=(s.extract 2 s.size).size:=af _
 generalize(nums s).getD 0 0=a at*
 generalize(nums s).getD 1 0=b at*
 rw[e];unfold dJ jg;dsimp only;generalize s.extract 2 s.size=r at*;by_cases c:r.size%2=0∧r.size≤48
 ·rw[if_pos ⟨h0,h1,by omega,by omega⟩,if_pos c]
  cases bA (nums r)<;>rfl
 ·rw[if_neg (fun d=>c ⟨by omega,by omega⟩),if_neg c];rfl
theorem Fw {s:ByteArray}(h:2≤s.size)(hb:¬((nums s).getD 0 0=113∨(nums s).getD 0 0=99)∨(nums s).getD 1 0≠32):dJ (nums s)=none:=by
 rw[tF h];unfold dJ;dsimp only;rw[if_neg (fun c=>hb.elim (fun d=>d c.1) (fun d=>d c.2.1))]
structure fB (R:ByteArray→Sh) (log:ByteArray) (aa:Int) (i a k:Nat) (h:HS):Prop where
 eq:aZ R 1 (HS.zero aa) (aN (nums log))=aZ R (k+1) h (jG (((nums log).take i).drop a) ((nums log).drop i))
 le:a≤i
 li:i≤log.size
 LU:3*k≤a
 tries:h.tries=k
 ok:jq R h
section
variable {R:ByteArray→Sh} {log:ByteArray} {aa:Int} {i a k:Nat} {h:HS}
theorem Fx (s0:0≤aa)(s1:aa≤18446744073709551615):fB R log aa 0 0 0 (HS.zero aa):=⟨rfl,Nat.le_refl _,Nat.zero_le _,Nat.le_refl _,rfl,nR aa s0 s1⟩
theorem fB.cons (f:fB R log aa i a k h)(hi:i<log.size):(nums log).drop i=(nums log).getD i 0::(nums log).drop (i+1)∧((nums log).take (i+1)).drop a=((nums log).take i).drop a++[(nums log).getD i 0]:=by
 have hl:i<(nums log).length:=by rw[af];exact hi
 have hle:=f.le
 refine⟨by rw[List.drop_eq_getElem_cons hl,List.getD_eq_getElem?_getD,List.getElem?_eq_getElem hl];rfl,?_⟩
 rw[List.take_add_one,List.drop_append_of_le_length (by rw[List.length_take];omega),List.getD_eq_getElem?_getD,List.getElem?_eq_getElem hl];rfl
theorem fB.skip (f:fB R log aa i a k h)(hi:i<log.size)(hx:(nums log).getD i 0≠10):fB R log aa (i+1) a k h:=by
 obtain⟨e1,e2⟩:=f.cons hi
 have hle:=f.le
 refine⟨?_,by omega,hi,f.LU,f.tries,f.ok⟩
 rw[f.eq,e1,e2];show aZ R (k+1) h (if(nums log).getD i 0=10 then _ else jG (((nums log).take i).drop a++[(nums log).getD i 0]) ((nums log).drop (i+1)))=_;rw[if_neg hx]
theorem fB.line (f:fB R log aa i a k h)(hi:i<log.size)(hx:(nums log).getD i 0=10):aZ R 1 (HS.zero aa) (aN (nums log))=aZ R (k+1) h (nums (log.extract a i)::aN ((nums log).drop (i+1))):=by
 obtain⟨e1,_⟩:=f.cons hi
 have hle:=f.le;rw[f.eq,e1,hx,aU];show aZ R (k+1) h (if(10:Int)=10 then _ else _)=_;rw[if_pos rfl,List.drop_take];rfl
theorem fB.bad (f:fB R log aa i a k h)(hi:i<log.size)(hx:(nums log).getD i 0=10)(hr:dJ (nums (log.extract a i))=none):aZ R 1 (HS.zero aa) (aN (nums log))=(h,some (k+1)):=by
 rw[f.line hi hx,ew,hr]
theorem fB.wrong (f:fB R log aa i a k h)(hi:i<log.size)(hx:(nums log).getD i 0=10){b:Bool}{t:ByteArray}(hr:dJ (nums (log.extract a i))=some (b,t))(hn:(aD R h t).2≠letter b):aZ R 1 (HS.zero aa) (aN (nums log))=((aD R h t).1,some (k+1)):=by
 rw[f.line hi hx,ew,hr];dsimp only;rw[if_neg hn]
theorem fB.next (f:fB R log aa i a k h)(hR:sO R)(hi:i<log.size)(hx:(nums log).getD i 0=10){b:Bool}{t:ByteArray}(hr:dJ (nums (log.extract a i))=some (b,t))(hn:(aD R h t).2=letter b):fB R log aa (i+1) (i+1) (k+1) (aD R h t).1:=by
 have hle:=f.le;have hfw:=f.LU;have hs:=(qh hr).2;have h2:2≤(log.extract a i).size:=by
  cases Nat.lt_or_ge (log.extract a i).size 2 with
  |inl c=>rw [rD c]at hr;cases hr
  |inr c=>exact c
 have h3:(log.extract a i).size=i-a:=by rw[ByteArray.size_extract];omega
 refine⟨?_,Nat.le_refl _,hi,by omega,by rw[(j9 R h t).2.2.2.2.1,f.tries],f.ok.tried hR t hs⟩
 rw[f.line hi hx,ew,hr];dsimp only;have e:((nums log).take (i+1)).drop (i+1)=[]:=List.drop_of_length_le (by rw[List.length_take];omega);rw[if_pos hn,e];rfl
theorem fB.last (f:fB R log aa log.size a k h):aZ R 1 (HS.zero aa) (aN (nums log))=(h,none):=by
 have e:(nums log).drop log.size=[]:=List.drop_of_length_le (by rw[af];exact Nat.le_refl _);rw[f.eq,e];rfl
end
theorem xD (R:ByteArray→Sh)(h:HS)(s:ByteArray)(b:Bool):r9 (aD R h s).2=letter b↔(aD R h s).2=letter b:=by
 have:(aD R h s).2=0∨(aD R h s).2=99∨(aD R h s).2=113:=by
  unfold aD;repeat' split
  all_goals simp
 unfold r9 letter;rcases this with e|e|e<;>rw [e]<;>cases b<;>decide
def nj (c:Nat→Int)(L:Nat)(log:ByteArray)(aa fuel:Int)(w:World)(e:Ending)(w':World):Prop:=
 ∃r b,cZ c L 80 19 r b∧((ez b [] fuel≠0∧e=.returned (.tuple #[.pointer none,.int .i64 0,.int .i64 (ez b [] fuel)])∧Below w.heap.size w w')∨
  (ez b [] fuel=0∧∃N,uM ⟨c,L,N,fuel⟩∧((∃h Y,aZ (PG.R ⟨c,L,N,fuel⟩) 1 (HS.zero aa) (aN (nums log))=(h,none)∧e=.returned (.tuple #[.pointer (some ⟨Y,0,none⟩),.int .i64 0,.int .i64 0])∧gD w ⟨c,L,N,fuel⟩ h Y w')∨
   (∃h n,aZ (PG.R ⟨c,L,N,fuel⟩) 1 (HS.zero aa) (aN (nums log))=(h,some n)∧e=.returned (.tuple #[.pointer none,.int .i64 (n:Nat),.int .i64 5])∧Below w.heap.size w w'))))
theorem xE {b:Bool}{fuel:Int}(h:ez b [] fuel≠0):ez b [] fuel=1∨ez b [] fuel=2:=by
 unfold ez at h⊢
 cases b with
 |true=>exact Or.inl rfl
 |false=>
  right;simp only[Bool.false_eq_true,if_false,List.length_nil,List.any_nil]at h⊢;by_cases c:fuel<1∨500<fuel
  ·rw[if_neg (by omega),if_pos c]
  ·rw[if_neg (by omega),if_neg c]at h;exact absurd rfl h
theorem gD.below {w wr W:World}{g:PG}{h:HS}{Y:Nat}(m:gD w g h Y wr)(B:Below wr.heap.size wr W):gD w g h Y W:=by
 obtain⟨U,d,D,hU⟩:=m.du
 have hs:=m.dY.size
 exact⟨m.dY.trans (B.mono hs),_,d,D.gr B,fun k hk=>hk.elim (hU k) (fun c=>by omega)⟩
theorem lH (w:World)(v:Value)(L:Nat)(c:Nat→Int)(hby:∀i,i<L→0≤c i∧c i≤255)(C:b9 w v L c)(log:ByteArray)(hlog:log.size≤9223372036854775806)(aa fuel:Int)(s0:0≤aa)(s1:aa≤18446744073709551615)(h3:3≤w.heap.size):
  Calls Tryz.prog 41 #[v,.string log,.int .u64 aa,.int .i64 fuel] w (nj c L log aa fuel w):=by
 have H1:Hid (Calls Tryz.prog 38 #[v,.slice none 0 0,.int .u64 aa,.int .i64 fuel] w (Fe c L [] aa fuel w)):=rA w v _ L c hby C [] ⟨none,0,rfl,Nat.le_refl _,by omega,fun j hj=>by simp at hj⟩ (fun s hs=>by simp at hs) aa fuel s0 s1 h3
 obtain⟨pc,ax,rfl⟩:=C.form
 clear C;go_in;go_wp2_with fail
 refine H1.out.mono ?_;rintro e w1 ⟨r,b,hF,⟨hne,rfl,B1⟩|⟨hz,N,Y,hpg,rfl,hm⟩⟩
 ·have HF:Hid (cZ c L 80 19 r b∧ez b [] fuel≠0∧Below w.heap.size w w1):=⟨hF,hne,B1⟩;have h12:=xE hne;have HE:Hid (∀x,ez b [] fuel=x→nj c L log aa fuel w (.returned (.tuple #[.pointer none,.int .i64 0,.int .i64 x])) w1):=fun x hx=>⟨r,b,hF,Or.inl ⟨hne,by rw[hx],B1⟩⟩
  clear H1 hF hne B1;rcases h12 with h12|h12
  ·have HX:=HE.out 1 h12;have HXX:Hid _:=HX;rw[h12];clear HX HE h12;go_wp2;go_ret3;exact HXX.out
  ·have HX:=HE.out 2 h12;have HXX:Hid _:=HX;rw[h12];clear HX HE h12;go_wp2;go_ret3;exact HXX.out
 ·have HOK:Hid (∀h w',aZ (PG.R ⟨c,L,N,fuel⟩) 1 (HS.zero aa) (aN (nums log))=(h,none)→gD w ⟨c,L,N,fuel⟩ h Y w'→nj c L log aa fuel w (.returned (.tuple #[.pointer (some ⟨Y,0,none⟩),.int .i64 0,.int .i64 0])) w'):=fun h w' e m=>⟨r,b,hF,Or.inr ⟨hz,N,hpg,Or.inl ⟨h,Y,e,rfl,m⟩⟩⟩
  have HBAD:Hid (∀h n w',aZ (PG.R ⟨c,L,N,fuel⟩) 1 (HS.zero aa) (aN (nums log))=(h,some n)→Below w.heap.size w w'→nj c L log aa fuel w (.returned (.tuple #[.pointer none,.int .i64 (n:Nat),.int .i64 5])) w'):=fun h n w' e m=>⟨r,b,hF,Or.inr ⟨hz,N,hpg,Or.inr ⟨h,n,e,rfl,m⟩⟩⟩
  have HPG:Hid (uM ⟨c,L,N,fuel⟩):=hpg;have HM:Hid (gD w ⟨c,L,N,fuel⟩ (HS.zero aa) Y w1):=hm;have HRK:Hid (sO (PG.R ⟨c,L,N,fuel⟩)):=PG.mC _;have HZ:Hid (fB (PG.R ⟨c,L,N,fuel⟩) log aa 0 0 0 (HS.zero aa)):=Fx s0 s1;clear H1 hF hz hpg hm;generalize hgg:(⟨c,L,N,fuel⟩:PG)=g at*;go_wp2_with fail
  go_loopw [13,14,15,16,17,18,19] (fun at_ line i _ _ _ _ wr=>∃(j a k:Nat) (h:HS),at_=.int .i64 a∧line=.int .i64 ((k:Int)+1)∧i=.int .i64 j∧fB g.R log aa j a k h∧gD w g h Y wr) (fun _ _ i _ _ _ _ _=>log.size-(intOf i).toNat)
  case atStart=>exact ⟨0,0,0,_,rfl,rfl,rfl,HZ.out,HM.out⟩
  case round=>
   clear HM HZ
   obtain⟨j,a,k,h,rfl,rfl,rfl,f,m⟩:=hrel
   have hli:=f.li;have hle:=f.le;have hfw:=f.LU;have HFM:Hid (fB g.R log aa j a k h∧gD w g h Y wr):=⟨f,m⟩;by_cases hlt:j<log.size
   ·have hij:(j:Int)<(log.size:Int):=(by omega);have hx:=jA log j hlt;by_cases h10:(nums log).getD j 0=10
    ·rw[h10]at hx;have hq1:(a:Int)≤(j:Int):=(by omega);have hq2:(j:Int)≤(log.size:Int):=(by omega);have HBD:Hid (dJ (nums (log.extract a j))=none→nj c L log aa fuel w (.returned (.tuple #[.pointer none,.int .i64 ((k:Int)+1),.int .i64 5])) wr):=fun e=>HBAD.out h (k+1) wr (f.bad hlt h10 e) m.dY
     have HF:Hid (fB g.R log aa j a k h):=f;clear f m
     obtain⟨ss,hss⟩:∃ss,log.extract a j=ss:=⟨_,rfl⟩
     rw[hss]at HBD;have hsz:ss.size≤9223372036854775806:=by rw[←hss,ByteArray.size_extract];omega
     have HSS:Hid (log.extract a j=ss):=hss;by_cases hs2:ss.size<2
     ·have his:(ss.size:Int)<2:=(by omega);have HXX:Hid _:=HBD.out (rD hs2);go_wp2;go_ret3;exact HXX.out
     ·have his:¬(ss.size:Int)<2:=(by omega);have hl0:(0:Int)<(ss.size:Int):=(by omega);have hl1:(1:Int)<(ss.size:Int):=(by omega);have hx0:∀W,(Instr.index 9 (.string ss) (.int .i64 0)).run Tryz.prog W=.ok (.int .u8 ((nums ss).getD 0 0)) W:=jA ss 0 (by omega);have hx1:∀W,(Instr.index 9 (.string ss) (.int .i64 1)).run Tryz.prog W=.ok (.int .u8 ((nums ss).getD 1 0)) W:=jA ss 1 (by omega);have HLB:Hid (¬((nums ss).getD 0 0=113∨(nums ss).getD 0 0=99)∨(nums ss).getD 1 0≠32→dJ (nums ss)=none):=fun e=>Fw (by omega) e
      have HLR:Hid ((nums ss).getD 0 0=113∨(nums ss).getD 0 0=99→(nums ss).getD 1 0=32→dJ (nums ss)=(jg (ss.extract 2 ss.size)).map fun t=>(decide ((nums ss).getD 0 0=113),t)):=fun e e'=>D7 (by omega) e e'
      generalize(nums ss).getD 0 0=c0 at*
      generalize(nums ss).getD 1 0=c1 at*
      by_cases hc0:c0=113∨c0=99
      ·by_cases hc1:c1=32
       ·subst hc1;have HRD:=HLR.out hc0 rfl;have h22:(2:Int)≤(ss.size:Int):=(by omega);have HUN:Hid (∀W,Calls Tryz.prog 84 #[.string (ss.extract 2 ss.size)] W fun e w'=>e=.returned (.tuple #[.string ((jg (ss.extract 2 ss.size)).getD ⟨#[]⟩),.bool (jg (ss.extract 2 ss.size)).isSome])∧Below W.heap.size W w'):=fun W=>za W _ (by rw[ByteArray.size_extract];omega)
        obtain⟨o,ho⟩:∃o,jg (ss.extract 2 ss.size)=o:=⟨_,rfl⟩
        rw[ho]at HRD HUN;have HRR:Hid _:=HRD;clear HRD ho
        cases o with
        |none=>
         have HXX:Hid _:=HBD.out HRR.out;have HBN:Hid (∀w',Below wr.heap.size wr w'→nj c L log aa fuel w (.returned (.tuple #[.pointer none,.int .i64 ((k:Int)+1),.int .i64 5])) w'):=fun w' B=>HBAD.out h (k+1) w' (HFM.out.1.bad hlt h10 (by rw[HSS.out];exact HRR.out)) (HFM.out.2.dY.trans (B.mono HFM.out.2.dY.size))
         rcases hc0 with rfl|rfl;all_goals
          go_wp2_with fail
          refine(HUN.out _).mono ?_
          rintro e w2 ⟨rfl,B2⟩;have HX2:Hid _:=HBN.out w2 B2;clear B2;go_wp2;go_ret3;exact HX2.out
        |some t=>
         have hts:t.size≤24:=(qh HRR.out).2;have HTY:Hid (∀W,Below wr.heap.size wr W→Calls Tryz.prog 82 #[.pointer (some ⟨Y,0,none⟩),.string t] W fun e w'=>e=.returned (.int .u8 (r9 (aD g.R h t).2))∧gD w g (aD g.R h t).1 Y w'):=fun W B=>(HFM.out.2.below B).tried HPG.out HFM.out.1.ok (by rw[HFM.out.1.tries];omega) t hts
         have HDL:Hid (∀b,r9 (aD g.R h t).2=letter b↔(aD g.R h t).2=letter b):=fun b=>xD g.R h t b
         have HWR:Hid (∀b w',dJ (nums ss)=some (b,t)→r9 (aD g.R h t).2≠letter b→gD w g (aD g.R h t).1 Y w'→nj c L log aa fuel w (.returned (.tuple #[.pointer none,.int .i64 ((k:Int)+1),.int .i64 5])) w'):=fun b w' e hn m=>HBAD.out _ (k+1) w' (HFM.out.1.wrong hlt h10 (by rw[HSS.out];exact e) (fun c=>hn ((HDL.out b).2 c))) m.dY
         have HNX:Hid (∀b,dJ (nums ss)=some (b,t)→r9 (aD g.R h t).2=letter b→fB g.R log aa (j+1) (j+1) (k+1) (aD g.R h t).1):=fun b e hn=>HFM.out.1.next HRK.out hlt h10 (by rw[HSS.out];exact e) ((HDL.out b).1 hn)
         clear HBD HBAD HOK;generalize r9 (aD g.R h t).2=dl at*
         generalize(aD g.R h t).1=hn at*
         rcases hc0 with rfl|rfl
         ·by_cases hd:dl=113
          ·subst hd;have HX:Hid _:=HNX.out true HRR.out rfl;go_wp2_with fail
           refine(HUN.out _).mono ?_
           rintro e w2 ⟨rfl,B2⟩;have HB2:Hid (Below wr.heap.size wr w2):=B2;clear B2;go_wp2_with fail
           refine(HTY.out w2 HB2.out).mono ?_
           rintro e w3 ⟨rfl,m3⟩;have HM3:Hid _:=m3;clear m3;go_wp2_with fail
           go_roundw
           case rel=>exact ⟨j+1,j+1,k+1,hn,by go_num,by go_num,by go_num,HX.out,HM3.out⟩
           case measure=>simp [intOf];omega
          ·have qd:(dl==113)=false:=by rw[beq_eq_false_iff_ne];exact hd
           go_wp2_with fail
           refine(HUN.out _).mono ?_
           rintro e w2 ⟨rfl,B2⟩;have HB2:Hid (Below wr.heap.size wr w2):=B2;clear B2;go_wp2_with fail
           refine(HTY.out w2 HB2.out).mono ?_
           rintro e w3 ⟨rfl,m3⟩;have HX:Hid _:=HWR.out true w3 HRR.out hd m3;clear m3;go_wp2;go_ret3;exact HX.out
         ·by_cases hd:dl=99
          ·subst hd;have HX:Hid _:=HNX.out false HRR.out rfl;go_wp2_with fail
           refine(HUN.out _).mono ?_
           rintro e w2 ⟨rfl,B2⟩;have HB2:Hid (Below wr.heap.size wr w2):=B2;clear B2;go_wp2_with fail
           refine(HTY.out w2 HB2.out).mono ?_
           rintro e w3 ⟨rfl,m3⟩;have HM3:Hid _:=m3;clear m3;go_wp2_with fail
           go_roundw
           case rel=>exact ⟨j+1,j+1,k+1,hn,by go_num,by go_num,by go_num,HX.out,HM3.out⟩
           case measure=>simp [intOf];omega
          ·have qd:(dl==99)=false:=by rw[beq_eq_false_iff_ne];exact hd
           go_wp2_with fail
           refine(HUN.out _).mono ?_
           rintro e w2 ⟨rfl,B2⟩;have HB2:Hid (Below wr.heap.size wr w2):=B2;clear B2;go_wp2_with fail
           refine(HTY.out w2 HB2.out).mono ?_
           rintro e w3 ⟨rfl,m3⟩;have HX:Hid _:=HWR.out false w3 HRR.out hd m3;clear m3;go_wp2;go_ret3;exact HX.out
       ·have HXX:Hid _:=HBD.out (HLB.out (Or.inr hc1));have q32:(c1==32)=false:=by rw[beq_eq_false_iff_ne];exact hc1
        rcases hc0 with rfl|rfl;all_goals
         go_wp2;go_ret3;exact HXX.out
      ·have HXX:Hid _:=HBD.out (HLB.out (Or.inl hc0));have qa:(c0==113)=false:=by rw[beq_eq_false_iff_ne];exact fun e=>hc0 (Or.inl e)
       have qb:(c0==99)=false:=by rw[beq_eq_false_iff_ne];exact fun e=>hc0 (Or.inr e)
       go_wp2;go_ret3;exact HXX.out
    ·have HX:Hid (fB g.R log aa (j+1) a k h):=f.skip hlt h10;have hx10:((nums log).getD j 0==10)=false:=by rw[beq_eq_false_iff_ne];exact h10
     clear f m
     generalize(nums log).getD j 0=x at*
     go_wp2_with fail
     go_roundw
     case rel=>exact ⟨j+1,a,k,h,rfl,rfl,by go_num,HX.out,HFM.out.2⟩
     case measure=>simp [intOf];omega
   ·obtain rfl:j=log.size:=by omega
    have hnn:¬(log.size:Int)<(log.size:Int):=(by omega);have HX:=HOK.out h wr f.last m;have HXX:Hid _:=HX;clear HX f m;go_wp2;go_ret3;exact HXX.out
theorem uS (w:World)(va vb:Value)(l:List ByteArray)(A:TL w va l)(B:TL w vb l):Calls Tryz.prog 49 #[va,vb] w fun e w'=>e=.returned (.bool true)∧Sm w w':=by
 obtain⟨ao,ca,rfl,_,hca,ra⟩:=A.form
 obtain⟨bo,cb,rfl,_,hcb,rb⟩:=B.form
 have HA:Hid _:=ra;have HB:Hid _:=rb;clear A B ra rb;have hee:((l.length:Int)==(l.length:Int))=true:=by simp
 go_in;go_wp2_with fail
 go_loopw [5] (fun i wr=>∃k:Nat,k≤l.length∧i=.int .i64 k∧Sm w wr) (fun i _=>l.length-(intOf i).toNat)
 case atStart=>exact ⟨0,by omega,rfl,Sm.refl _⟩
 case round=>
  obtain⟨k,hk,rfl,S⟩:=hrel
  have HS:=hid S;by_cases hlt:k<l.length
  ·obtain⟨b1,o1,rfl,hb1,h1⟩:=HA.out k hlt
   obtain⟨b2,o2,rfl,hb2,h2⟩:=HB.out k hlt
   have e1:=S.cell (h1 k hlt);have e2:=S.cell (h2 k hlt);have hi:(k:Int)<(l.length:Int):=(by omega);clear S h1 h2;generalize l.getD k ⟨#[]⟩=t at*;go_wp2_with fail
   go_quiet(fail)
   go_wp2_with fail
   go_roundw
   case rel=>exact ⟨k+1,by omega,by go_num,HS.out.drewN _⟩
   case measure=>simp [intOf];omega
  ·obtain rfl:k=l.length:=by omega
   have hnn:¬(l.length:Int)<(l.length:Int):=(by omega);clear S;go_wp2;go_ret
   exact⟨rfl,HS.out⟩
structure XL (w:World) (v:Value) (l:List Cr):Prop where
 form:∃ao cap,v=.slice ao l.length cap∧l.length≤cap∧cap≤9223372036854775807∧∀j,j<l.length→∃b,ao=some ⟨b,0,none⟩∧b<w.heap.size∧∀(i:Nat) (u:Value),(bH l)[i]?=some u→w.cell? ⟨b,i,none⟩=some u
theorem rG (w:World)(va vb:Value)(l:List Cr)(A:XL w va l)(B:XL w vb l):Calls Tryz.prog 53 #[va,vb] w fun e w'=>e=.returned (.bool true)∧Sm w w':=by
 obtain⟨ao,ca,rfl,_,hca,ra⟩:=A.form
 obtain⟨bo,cb,rfl,_,hcb,rb⟩:=B.form
 have HA:Hid _:=ra;have HB:Hid _:=rb;clear A B ra rb;have hee:((l.length:Int)==(l.length:Int))=true:=by simp
 go_in;go_wp2_with fail
 go_loopw [5] (fun i wr=>∃k:Nat,k≤l.length∧i=.int .i64 k∧Sm w wr) (fun i _=>l.length-(intOf i).toNat)
 case atStart=>exact ⟨0,by omega,rfl,Sm.refl _⟩
 case round=>
  obtain⟨k,hk,rfl,S⟩:=hrel
  have HS:=hid S;by_cases hlt:k<l.length
  ·obtain⟨b1,rfl,hb1,h1⟩:=HA.out k hlt
   obtain⟨b2,rfl,hb2,h2⟩:=HB.out k hlt
   obtain⟨f0,f1,f2⟩:=gT l k hlt
   have a0:=S.cell (h1 _ _ f0);have a1:=S.cell (h1 _ _ f1);have a2:=S.cell (h1 _ _ f2);have d0:=S.cell (h2 _ _ f0);have d1:=S.cell (h2 _ _ f1);have d2:=S.cell (h2 _ _ f2);have hi:(k:Int)<(l.length:Int):=(by omega);clear S h1 h2 f0 f1 f2
   generalize(l.getD k mY).text=t at*
   generalize(l.getD k mY).fault=x at*
   generalize(l.getD k mY).place=y at*
   go_wp2_with fail
   go_quiet(fail)
   go_wp2_with fail
   go_roundw
   case rel=>exact ⟨k+1,by omega,by go_num,HS.out.drewN _⟩
   case measure=>simp [intOf];omega
  ·obtain rfl:k=l.length:=by omega
   have hnn:¬(l.length:Int)<(l.length:Int):=(by omega);clear S;go_wp2;go_ret
   exact⟨rfl,HS.out⟩
end Go.Proofs.YtmpgjkhchfcjlaaGreatDoor
