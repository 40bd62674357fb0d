import Derived.Test.YtmpgjkhchfcjlaaGreatDoorM47
namespace Go.Proofs.YtmpgjkhchfcjlaaGreatDoor
open Go.RowKit
set_option maxRecDepth 100000
set_option maxHeartbeats 4000000
theorem Di {w:World}{A M L T:Nat}{col:Nat→Nat}{ps:List PP}(h:WW w A M L T col ps)(hl:(L+4)*24≤140737488355328){i:Nat}{p:PP}(hp:ps[i]?=some p):
  Calls Tryz.prog 17 #[.pointer (some ⟨A,0,none⟩),.agg #[.pointer (some ⟨p.H,0,none⟩),.pointer (some ⟨p.Y,0,none⟩)],.int .i64 10] w (bC A M L T col w):=by
 obtain⟨tl,htl⟩:∃tl,p.h.kept.map (·.text)=tl:=⟨_,rfl⟩
 obtain⟨n,hn⟩:∃n,p.h.kept.length=n:=⟨_,rfl⟩
 have HN:Hid (tl.length=n∧n≤30):=⟨by rw[←htl,List.length_map,hn],by have:=(h.pr i p hp).oh.inv.most;omega⟩;have HW:=hid h;have HP:Hid (∀W,Below w.heap.size w W→jC 0 (fun k=>col k=3+2*i) p.H p.g p.h W):=fun W b=>h.Ji hp b
 have HD:Hid (∀W,Below w.heap.size w W→∃d,DU W (fun k=>col k=4+2*i) p.Y d p.g p.h):=fun W b=>h.doc hp b
 have HK:=hid (h.pr i p hp);have h3:=h.three;clear h
 obtain⟨H,hH⟩:∃H,p.H=H:=⟨_,rfl⟩
 obtain⟨Y,hY⟩:∃Y,p.Y=Y:=⟨_,rfl⟩
 rw[hH]at HP;rw[hY]at HD;rw[hH,hY];clear hH hY;have B0:Below w.heap.size w (w.alloc (.cells #[.pointer (some ⟨H,0,none⟩),.pointer (some ⟨Y,0,none⟩)] 51)):=(Below.refl _ _).alloc (Nat.le_refl _) _;have hh:=heap_alloc_new w (.cells #[.pointer (some ⟨H,0,none⟩),.pointer (some ⟨Y,0,none⟩)] 51);have e0:(w.alloc (.cells #[.pointer (some ⟨H,0,none⟩),.pointer (some ⟨Y,0,none⟩)] 51)).cell? ⟨w.heap.size,0,none⟩=some (.pointer (some ⟨H,0,none⟩)):=cell_of_row _ _ _ _ _ _ hh;have e1:(w.alloc (.cells #[.pointer (some ⟨H,0,none⟩),.pointer (some ⟨Y,0,none⟩)] 51)).cell? ⟨w.heap.size,1,none⟩=some (.pointer (some ⟨Y,0,none⟩)):=cell_of_row _ _ _ _ _ _ hh;clear hh;go_in;go_wp2_with(refine aF rfl 51 _ rfl (.agg #[.pointer (some ⟨H,0,none⟩),.pointer (some ⟨Y,0,none⟩)]) rfl #[.pointer (some ⟨H,0,none⟩),.pointer (some ⟨Y,0,none⟩)] (mj _ _ _) ?_)
 generalize(w.alloc (.cells #[.pointer (some ⟨H,0,none⟩),.pointer (some ⟨Y,0,none⟩)] 51))=w0 at*
 have hs0:=B0.size;have H1:Hid (Calls Tryz.prog 48 #[.pointer (some ⟨H,0,none⟩)] w0 fun e w'=>e=.returned (.slice (some ⟨w0.heap.size,0,none⟩) n n)∧w'.heap[w0.heap.size]?=some (.cells (mM tl).toArray 9 (0,0))∧Below w0.heap.size w0 w'):=by
  obtain⟨v,G,K⟩:=(HP.out w0 B0).kh
  have:=CX w0 H v G p.h.kept K (by have:=HN.out.2;omega)
  rw[Kl,htl,hn]at this;exact this
 refine H1.out.mono ?_;rintro e2 w1 ⟨rfl,hr,B1⟩;have B01:=B0.trans (B1.mono hs0);have f1:=cS B1 e1;have H2:Hid (Calls Tryz.prog 50 #[.pointer (some ⟨Y,0,none⟩)] w1 fun e w'=>(∃v,e=.returned v∧w'.ownsRow w1.heap.size 9 1 v n (mM tl))∧Below w1.heap.size w1 w'):=by
  obtain⟨d,D⟩:=HD.out w1 B01
  have:=D6 D (by have:=HN.out.2;omega)
  rw[htl,hn]at this;exact this
 have HO1:Hid (w1.ownsRow 0 9 1 (.slice (some ⟨w0.heap.size,0,none⟩) n n) n (mM tl)):=rQ hr (by rw[ID,HN.out.1,Nat.mul_one]) (by have:=HN.out.2;omega);have hs1:=B1.size;have hlt:w0.heap.size<w1.heap.size:=(Array.getElem?_eq_some_iff.1 hr).1;have HB1:=hid B01;clear hr B1 B01 H1;go_wp2_with fail
 refine H2.out.mono ?_;rintro _ w2 ⟨⟨v2,rfl,o2⟩,B2⟩
 obtain⟨p2,c2,rfl⟩:=eC o2
 have HO2:=hid o2;have HO12:=hid (ay HO1.out (fun b hb=>B2.block b (aL HO1.out hb)));have hs2:=B2.size;have HB2:=hid (HB1.out.trans (B2.mono HB1.out.size));have H3:Hid (Calls Tryz.prog 49 #[.slice (some ⟨w0.heap.size,0,none⟩) n n,.slice p2 n c2] w2 fun e w'=>e=.returned (.bool true)∧Sm w2 w'):=uS w2 _ _ tl (Jf (by rw[HN.out.1];exact HO12.out)) (Jf (by rw[HN.out.1];exact HO2.out));clear o2 B2 H2 HO1;go_wp2_with fail
 refine H3.out.mono ?_;rintro _ w3 ⟨rfl,S3⟩;have HBL:=hid (FE HB2.out S3);have ca:=HW.out.cA HBL.out;have HLK:Hid (Calls Tryz.prog 7 #[.pointer (some ⟨M,0,none⟩)] w3 fun e w'=>e=.returned (.bool true)∧Below w3.heap.size w3 w'):=gV (HW.out.bk.below HBL.out) (fun _=>by show L≤_;omega);have HVB:Hid (∀g,(Value.slice (some ⟨w0.heap.size,0,none⟩) n n).ownBlock=some g→w.heap.size≤g∧g<w3.heap.size):=fun g e=>by
  obtain rfl:w0.heap.size=g:=by simpa[Value.ownBlock]using e
  have:w3.heap.size=w2.heap.size:=by rw[S3.heap]
  omega
 have HOW:Hid (w3.ownsRow 0 9 1 (.slice (some ⟨w0.heap.size,0,none⟩) n n) n (mM tl)):=ay HO12.out (fun _ _=>by rw[S3.heap]);clear S3 H3 HO12 HO2;go_wp2_with fail
 refine HLK.out.mono ?_;rintro _ w8 ⟨rfl,B8⟩;have HB8:=hid (HBL.out.trans (B8.mono HBL.out.size));have ca8:=HW.out.cA HB8.out;have hs8:=B8.size;have OW:=uW (HW.out.bk.below HB8.out) hl (.slice (some ⟨w0.heap.size,0,none⟩) n n) n (mM tl) (ay HOW.out (fun b hb=>B8.block b (aL HOW.out hb))) (by have:=HN.out.2;omega) (fun g e=>HW.out.IB (HVB.out g e).1);have HOO:=hid OW;clear OW B8 HLK ca;go_wp2_with fail
 refine HOO.out.mono ?_;intro _ w9 o9;obtain rfl:=o9.1;have HF:Hid (bC A M L T col w (.returned (.bool true)) w9):=HW.out.owned HB8.out (fun g e=>⟨(HVB.out g e).1,by have:=(HVB.out g e).2;omega⟩) o9;clear o9;go_wp2_with fail
 go_ret;exact HF.out
theorem FV {w:World}{A M L T:Nat}{col:Nat→Nat}{ps:List PP}(h:WW w A M L T col ps)(hl:(L+4)*24≤140737488355328){i:Nat}{p:PP}(hp:ps[i]?=some p):
  Calls Tryz.prog 17 #[.pointer (some ⟨A,0,none⟩),.agg #[.pointer (some ⟨p.H,0,none⟩),.pointer (some ⟨p.Y,0,none⟩)],.int .i64 13] w (bC A M L T col w):=by
 obtain⟨fl,hfl⟩:∃fl,bE p.h.kept=fl:=⟨_,rfl⟩
 obtain⟨n,hn⟩:∃n,fl.length=n:=⟨_,rfl⟩
 have HN:Hid (fl.length=n∧n≤30):=⟨hn,by
  have q:fl.length≤p.h.kept.length:=by rw[←hfl];exact IC p.h.kept
  have:=(h.pr i p hp).oh.inv.most
  omega⟩
 have HW:=hid h;have HP:Hid (∀W,Below w.heap.size w W→jC 0 (fun k=>col k=3+2*i) p.H p.g p.h W):=fun W b=>h.Ji hp b
 have HD:Hid (∀W,Below w.heap.size w W→∃d,DU W (fun k=>col k=4+2*i) p.Y d p.g p.h):=fun W b=>h.doc hp b
 have HK:=hid (h.pr i p hp);have h3:=h.three;clear h
 obtain⟨H,hH⟩:∃H,p.H=H:=⟨_,rfl⟩
 obtain⟨Y,hY⟩:∃Y,p.Y=Y:=⟨_,rfl⟩
 rw[hH]at HP;rw[hY]at HD;rw[hH,hY];clear hH hY;have B0:Below w.heap.size w (w.alloc (.cells #[.pointer (some ⟨H,0,none⟩),.pointer (some ⟨Y,0,none⟩)] 51)):=(Below.refl _ _).alloc (Nat.le_refl _) _;have hh:=heap_alloc_new w (.cells #[.pointer (some ⟨H,0,none⟩),.pointer (some ⟨Y,0,none⟩)] 51);have e0:(w.alloc (.cells #[.pointer (some ⟨H,0,none⟩),.pointer (some ⟨Y,0,none⟩)] 51)).cell? ⟨w.heap.size,0,none⟩=some (.pointer (some ⟨H,0,none⟩)):=cell_of_row _ _ _ _ _ _ hh;have e1:(w.alloc (.cells #[.pointer (some ⟨H,0,none⟩),.pointer (some ⟨Y,0,none⟩)] 51)).cell? ⟨w.heap.size,1,none⟩=some (.pointer (some ⟨Y,0,none⟩)):=cell_of_row _ _ _ _ _ _ hh;clear hh;go_in;go_wp2_with(refine aF rfl 51 _ rfl (.agg #[.pointer (some ⟨H,0,none⟩),.pointer (some ⟨Y,0,none⟩)]) rfl #[.pointer (some ⟨H,0,none⟩),.pointer (some ⟨Y,0,none⟩)] (mj _ _ _) ?_)
 generalize(w.alloc (.cells #[.pointer (some ⟨H,0,none⟩),.pointer (some ⟨Y,0,none⟩)] 51))=w0 at*
 have hs0:=B0.size;have H1:Hid (Calls Tryz.prog 56 #[.pointer (some ⟨H,0,none⟩)] w0 fun e w'=>(∃a c,e=.returned (.slice a n c)∧w'.ownsRow w0.heap.size 3 1 (.slice a n c) n (nW fl))∧Below w0.heap.size w0 w'):=by
  obtain⟨v,G,K⟩:=(HP.out w0 B0).kh
  have:=Dd w0 H v G p.h.kept K (nQ HK.out.oh.inv) (by have:=HK.out.oh.inv.most;omega)
  rw[hfl,hn]at this;exact this
 refine H1.out.mono ?_;rintro e2 w1 ⟨⟨p1,c1,rfl,o1⟩,B1⟩;have B01:=B0.trans (B1.mono hs0);have f1:=cS B1 e1;have hs1:=B1.size;have H2:Hid (Calls Tryz.prog 57 #[.pointer (some ⟨Y,0,none⟩)] w1 fun e w'=>(∃v,e=.returned v∧w'.ownsRow w1.heap.size 3 1 v n (nW fl))∧Below w1.heap.size w1 w'):=by
  obtain⟨d,D⟩:=HD.out w1 B01
  have:=mL D (iJ p.g.mC HK.out.oh.inv) HK.out.oh.inv.most (nQ HK.out.oh.inv)
  rw[hfl,hn]at this;exact this
 have HO1:=hid o1;have HB1:=hid B01;clear o1 B1 B01 H1;go_wp2_with fail
 refine H2.out.mono ?_;rintro _ w2 ⟨⟨v2,rfl,o2⟩,B2⟩
 obtain⟨p2,c2,rfl⟩:=eC o2
 have HO12:=hid (ay HO1.out (fun b hb=>B2.block b (aL HO1.out hb)));have HB2:=hid (HB1.out.trans (B2.mono HB1.out.size));have H3:Hid (Calls Tryz.prog 29 #[.slice p1 n c1,.slice p2 n c2] w2 fun e w'=>Sm w2 w'∧e=.returned (.bool true)):=by
  have:=HN.out
  rw[←HN.out.1]at o2;have h12:=HO12.out;rw[←HN.out.1]at h12⊢;exact kU w2 _ _ _ _ (Jh h12) (Jh o2) (by omega)
 have hs2:=B2.size;clear o2 B2 H2 HO1 HP HD HK e0;go_wp2_with fail
 refine H3.out.mono ?_;rintro _ w3 ⟨S3,rfl⟩;have HBL:=hid (FE HB2.out S3);have ca:=HW.out.cA HBL.out;have HLK:Hid (Calls Tryz.prog 7 #[.pointer (some ⟨M,0,none⟩)] w3 fun e w'=>e=.returned (.bool true)∧Below w3.heap.size w3 w'):=gV (HW.out.bk.below HBL.out) (fun _=>by show L≤_;omega);have HVB:Hid (∀g,(Value.slice p1 n c1).ownBlock=some g→w.heap.size≤g∧g<w3.heap.size):=fun g e=>by
  have:=HO12.out.lt g e
  have:w3.heap.size=w2.heap.size:=by rw[S3.heap]
  omega
 have HOW:Hid (w3.ownsRow 0 3 1 (.slice p1 n c1) n (nW fl)):=ay (dN HO12.out (Nat.zero_le _)) (fun _ _=>by rw[S3.heap]);clear S3 H3 HO12;go_wp2_with fail
 refine HLK.out.mono ?_;rintro _ w8 ⟨rfl,B8⟩;have HB8:=hid (HBL.out.trans (B8.mono HBL.out.size));have ca8:=HW.out.cA HB8.out;have hs8:=B8.size;have OW:=lJ (HW.out.bk.below HB8.out) hl (.slice p1 n c1) n (nW fl) (ay HOW.out (fun b hb=>B8.block b (aL HOW.out hb))) (by have:=HN.out.2;omega) (fun g e=>HW.out.IB (HVB.out g e).1);have HOO:=hid OW;clear OW B8 HLK ca;go_wp2_with fail
 refine HOO.out.mono ?_;intro _ w9 o9;obtain rfl:=o9.1;have HF:Hid (bC A M L T col w (.returned (.bool true)) w9):=HW.out.owned HB8.out (fun g e=>⟨(HVB.out g e).1,by have:=(HVB.out g e).2;omega⟩) o9;clear o9;go_wp2_with fail
 go_ret;exact HF.out
theorem ve {w:World}{A M L T:Nat}{col:Nat→Nat}{ps:List PP}(h:WW w A M L T col ps)(hl:(L+4)*24≤140737488355328){i:Nat}{p:PP}(hp:ps[i]?=some p):
  Calls Tryz.prog 17 #[.pointer (some ⟨A,0,none⟩),.agg #[.pointer (some ⟨p.H,0,none⟩),.pointer (some ⟨p.Y,0,none⟩)],.int .i64 11] w (bC A M L T col w):=by
 obtain⟨n,hn⟩:∃n,p.h.found.length=n:=⟨_,rfl⟩
 have HN:Hid (p.h.found.length=n∧n≤120000):=⟨hn,by have:=nL (h.pr i p hp).oh.inv (h.pr i p hp).pg.ok.EL;omega⟩;have HW:=hid h;have HP:Hid (∀W,Below w.heap.size w W→jC 0 (fun k=>col k=3+2*i) p.H p.g p.h W):=fun W b=>h.Ji hp b
 have HD:Hid (∀W,Below w.heap.size w W→∃d,DU W (fun k=>col k=4+2*i) p.Y d p.g p.h):=fun W b=>h.doc hp b
 have HK:=hid (h.pr i p hp);have h3:=h.three;clear h
 obtain⟨H,hH⟩:∃H,p.H=H:=⟨_,rfl⟩
 obtain⟨Y,hY⟩:∃Y,p.Y=Y:=⟨_,rfl⟩
 rw[hH]at HP;rw[hY]at HD;rw[hH,hY];clear hH hY;have B0:Below w.heap.size w (w.alloc (.cells #[.pointer (some ⟨H,0,none⟩),.pointer (some ⟨Y,0,none⟩)] 51)):=(Below.refl _ _).alloc (Nat.le_refl _) _;have hh:=heap_alloc_new w (.cells #[.pointer (some ⟨H,0,none⟩),.pointer (some ⟨Y,0,none⟩)] 51);have e0:(w.alloc (.cells #[.pointer (some ⟨H,0,none⟩),.pointer (some ⟨Y,0,none⟩)] 51)).cell? ⟨w.heap.size,0,none⟩=some (.pointer (some ⟨H,0,none⟩)):=cell_of_row _ _ _ _ _ _ hh;have e1:(w.alloc (.cells #[.pointer (some ⟨H,0,none⟩),.pointer (some ⟨Y,0,none⟩)] 51)).cell? ⟨w.heap.size,1,none⟩=some (.pointer (some ⟨Y,0,none⟩)):=cell_of_row _ _ _ _ _ _ hh;clear hh;go_in;go_wp2_with(refine aF rfl 51 _ rfl (.agg #[.pointer (some ⟨H,0,none⟩),.pointer (some ⟨Y,0,none⟩)]) rfl #[.pointer (some ⟨H,0,none⟩),.pointer (some ⟨Y,0,none⟩)] (mj _ _ _) ?_)
 generalize(w.alloc (.cells #[.pointer (some ⟨H,0,none⟩),.pointer (some ⟨Y,0,none⟩)] 51))=w0 at*
 have hs0:=B0.size;have H1:Hid (Calls Tryz.prog 52 #[.pointer (some ⟨H,0,none⟩)] w0 fun e w'=>(∃v,e=.returned v∧w'.ownsRow w0.heap.size 67 3 v n (bH p.h.found))∧Below w0.heap.size w0 w'):=by
  have:=(HP.out w0 B0).Ic (by have:=HN.out.2;omega)
  rw[hn]at this;exact this
 refine H1.out.mono ?_;rintro e2 w1 ⟨⟨v1,rfl,o1⟩,B1⟩
 obtain⟨p1,c1,rfl⟩:=eC o1
 have B01:=B0.trans (B1.mono hs0);have f1:=cS B1 e1;have hs1:=B1.size;have HO1:=hid o1;have HB1:=hid B01
 obtain⟨d,D⟩:=HD.out w1 B01
 have o2:=D.ob.own 4 rfl;have y4:=D.ob.cell 4 (by decide);have o2':w1.ownsRow 0 67 3 (d.F 4) n (bH p.h.found):=by
  rw[D.x4]at o2;rw[←hn];exact o2
 obtain⟨p2,c2,e4⟩:=eC o2'
 rw[e4]at y4 o2';have hYl:=D.ob.lt;have HO2:=hid o2';have H3:Hid (Calls Tryz.prog 53 #[.slice p1 n c1,.slice p2 n c2] w1 fun e w'=>e=.returned (.bool true)∧Sm w1 w'):=rG w1 _ _ p.h.found (Jg (by rw[hn];exact o1)) (Jg (by rw[hn];exact o2'));clear o1 B1 B01 H1 D o2 o2' e4 HP HD HK e0;go_wp2_with fail
 refine H3.out.mono ?_;rintro _ w3 ⟨rfl,S3⟩;have HBL:=hid (FE HB1.out S3);have ca:=HW.out.cA HBL.out;have HLK:Hid (Calls Tryz.prog 7 #[.pointer (some ⟨M,0,none⟩)] w3 fun e w'=>e=.returned (.bool true)∧Below w3.heap.size w3 w'):=gV (HW.out.bk.below HBL.out) (fun _=>by show L≤_;omega);have HVB:Hid (∀g,(Value.slice p1 n c1).ownBlock=some g→w.heap.size≤g∧g<w3.heap.size):=fun g e=>by
  have:=HO1.out.lt g e
  have:w3.heap.size=w1.heap.size:=by rw[S3.heap]
  omega
 have HOW:Hid (w3.ownsRow 0 67 3 (.slice p1 n c1) n (bH p.h.found)):=ay (dN HO1.out (Nat.zero_le _)) (fun _ _=>by rw[S3.heap]);clear S3 H3 HO1 HO2;go_wp2_with fail
 refine HLK.out.mono ?_;rintro _ w8 ⟨rfl,B8⟩;have HB8:=hid (HBL.out.trans (B8.mono HBL.out.size));have ca8:=HW.out.cA HB8.out;have hs8:=B8.size;have OW:=rO (HW.out.bk.below HB8.out) hl (.slice p1 n c1) n (bH p.h.found) (ay HOW.out (fun b hb=>B8.block b (aL HOW.out hb))) (by have:=HN.out.2;omega) (fun g e=>HW.out.IB (HVB.out g e).1);have HOO:=hid OW;clear OW B8 HLK ca;go_wp2_with fail
 refine HOO.out.mono ?_;intro _ w9 o9;obtain rfl:=o9.1;have HF:Hid (bC A M L T col w (.returned (.bool true)) w9):=HW.out.owned HB8.out (fun g e=>⟨(HVB.out g e).1,by have:=(HVB.out g e).2;omega⟩) o9;clear o9;go_wp2_with fail
 go_ret;exact HF.out
theorem xX {w:World}{A M L T:Nat}{col:Nat→Nat}{ps:List PP}(h:WW w A M L T col ps){i:Nat}{p:PP}(hp:ps[i]?=some p):
  Calls Tryz.prog 17 #[.pointer (some ⟨A,0,none⟩),.agg #[.pointer (some ⟨p.H,0,none⟩),.pointer (some ⟨p.Y,0,none⟩)],.int .i64 9] w (bC A M L T col w):=by
 have HW:Hid (WW w A M L T col ps):=h;have HP:Hid (∀W,Below w.heap.size w W→jC 0 (fun k=>col k=3+2*i) p.H p.g p.h W):=fun W b=>h.Ji hp b
 have HD:Hid (∀W,Below w.heap.size w W→∃d,DU W (fun k=>col k=4+2*i) p.Y d p.g p.h):=fun W b=>h.doc hp b
 have HK:Hid (AY w col T i p):=h.pr i p hp;have h3:=h.three;clear h
 obtain⟨H,hH⟩:∃H,p.H=H:=⟨_,rfl⟩
 obtain⟨Y,hY⟩:∃Y,p.Y=Y:=⟨_,rfl⟩
 rw[hH]at HP;rw[hY]at HD;rw[hH,hY];clear hH hY;have B0:Below w.heap.size w (w.alloc (.cells #[.pointer (some ⟨H,0,none⟩),.pointer (some ⟨Y,0,none⟩)] 51)):=(Below.refl _ _).alloc (Nat.le_refl _) _;have hh:=heap_alloc_new w (.cells #[.pointer (some ⟨H,0,none⟩),.pointer (some ⟨Y,0,none⟩)] 51);have e0:(w.alloc (.cells #[.pointer (some ⟨H,0,none⟩),.pointer (some ⟨Y,0,none⟩)] 51)).cell? ⟨w.heap.size,0,none⟩=some (.pointer (some ⟨H,0,none⟩)):=cell_of_row _ _ _ _ _ _ hh;have e1:(w.alloc (.cells #[.pointer (some ⟨H,0,none⟩),.pointer (some ⟨Y,0,none⟩)] 51)).cell? ⟨w.heap.size,1,none⟩=some (.pointer (some ⟨Y,0,none⟩)):=cell_of_row _ _ _ _ _ _ hh;clear hh;go_in;go_wp2_with(refine aF rfl 51 _ rfl (.agg #[.pointer (some ⟨H,0,none⟩),.pointer (some ⟨Y,0,none⟩)]) rfl #[.pointer (some ⟨H,0,none⟩),.pointer (some ⟨Y,0,none⟩)] (mj _ _ _) ?_)
 generalize(w.alloc (.cells #[.pointer (some ⟨H,0,none⟩),.pointer (some ⟨Y,0,none⟩)] 51))=w0 at*
 have hs0:=B0.size
 obtain⟨d,D⟩:=HD.out w0 B0
 have H1:Hid (Calls Tryz.prog 46 #[.pointer (some ⟨H,0,none⟩)] w0 fun e w'=>e=.returned (.agg #[.int .i64 p.h.tries,.int .i64 p.h.hangs,.int .i64 p.h.entry,.int .i64 p.h.changes])∧Below w0.heap.size w0 w'):=(HP.out w0 B0).status;have y0:w0.cell? ⟨Y,69,none⟩=some (.int .i64 p.h.tries):=D.cell 69 (by omega);have y1:w0.cell? ⟨Y,70,none⟩=some (.int .i64 p.h.hangs):=D.cell 70 (by omega);have y2:w0.cell? ⟨Y,71,none⟩=some (.int .i64 p.h.entry):=D.cell 71 (by omega);have y3:w0.cell? ⟨Y,72,none⟩=some (.int .i64 p.h.changes):=D.cell 72 (by omega);have hY:=D.ob.lt;clear D HD HP
 generalize(p.h.tries:Int)=q0 at*
 generalize(p.h.hangs:Int)=q1 at*
 generalize(p.h.entry:Int)=q2 at*
 generalize(p.h.changes:Int)=q3 at*
 refine H1.out.mono ?_;rintro e2 w1 ⟨rfl,B1⟩;have z0:=cS B1 y0;have z1:=cS B1 y1;have z2:=cS B1 y2;have z3:=cS B1 y3;have f1:=cS B1 e1;have hs1:=B1.size;have HF:Hid (∀w2,Below w1.heap.size w1 w2→bC A M L T col w (.returned (.bool true)) w2):=fun w2 b=>HW.out.idle ((B0.trans (B1.mono hs0)).trans (b.mono (by omega)))
 clear y0 y1 y2 y3 e0 e1 B1 B0 H1;go_wp2_with fail
 have hh:=heap_alloc_new w1 (.cells #[.int .i64 q0,.int .i64 q1,.int .i64 q2,.int .i64 q3] 60);have b1:Below w1.heap.size w1 (w1.alloc (.cells #[.int .i64 q0,.int .i64 q1,.int .i64 q2,.int .i64 q3] 60)):=(Below.refl _ _).alloc (Nat.le_refl _) _;have s0:(w1.alloc (.cells #[.int .i64 q0,.int .i64 q1,.int .i64 q2,.int .i64 q3] 60)).cell? ⟨w1.heap.size,0,none⟩=some (.int .i64 q0):=cell_of_row _ _ _ _ _ _ hh;have s1:(w1.alloc (.cells #[.int .i64 q0,.int .i64 q1,.int .i64 q2,.int .i64 q3] 60)).cell? ⟨w1.heap.size,1,none⟩=some (.int .i64 q1):=cell_of_row _ _ _ _ _ _ hh;have s2:(w1.alloc (.cells #[.int .i64 q0,.int .i64 q1,.int .i64 q2,.int .i64 q3] 60)).cell? ⟨w1.heap.size,2,none⟩=some (.int .i64 q2):=cell_of_row _ _ _ _ _ _ hh;have s3:(w1.alloc (.cells #[.int .i64 q0,.int .i64 q1,.int .i64 q2,.int .i64 q3] 60)).cell? ⟨w1.heap.size,3,none⟩=some (.int .i64 q3):=cell_of_row _ _ _ _ _ _ hh
 generalize(w1.alloc (.cells #[.int .i64 q0,.int .i64 q1,.int .i64 q2,.int .i64 q3] 60))=wa at*
 have z0:=cS b1 z0;have z1:=cS b1 z1;have z2:=cS b1 z2;have z3:=cS b1 z3;have f1:=cS b1 f1;have HF:Hid (∀w2,Sm wa w2→bC A M L T col w (.returned (.bool true)) w2):=fun w2 s=>HF.out w2 (FE b1 s)
 clear hh b1;go_quiet(fail)
 go_wp2_with fail
 go_ret;exact HF.out _ ((Sm.refl _).drewN _)
theorem FW {w:World}{A M L T:Nat}{col:Nat→Nat}{ps:List PP}(h:WW w A M L T col ps){i:Nat}{p:PP}(hp:ps[i]?=some p):
  Calls Tryz.prog 17 #[.pointer (some ⟨A,0,none⟩),.agg #[.pointer (some ⟨p.H,0,none⟩),.pointer (some ⟨p.Y,0,none⟩)],.int .i64 14] w (bC A M L T col w):=by
 have HW:=hid h;have HP:Hid (∀W,Below w.heap.size w W→jC 0 (fun k=>col k=3+2*i) p.H p.g p.h W):=fun W b=>h.Ji hp b
 have HD:Hid (∀W,Below w.heap.size w W→∃d,DU W (fun k=>col k=4+2*i) p.Y d p.g p.h):=fun W b=>h.doc hp b
 have HK:Hid (AY w col T i p):=h.pr i p hp;have h3:=h.three;clear h
 obtain⟨H,hH⟩:∃H,p.H=H:=⟨_,rfl⟩
 obtain⟨Y,hY⟩:∃Y,p.Y=Y:=⟨_,rfl⟩
 rw[hH]at HP;rw[hY]at HD;rw[hH,hY];clear hH hY;have B0:Below w.heap.size w (w.alloc (.cells #[.pointer (some ⟨H,0,none⟩),.pointer (some ⟨Y,0,none⟩)] 51)):=(Below.refl _ _).alloc (Nat.le_refl _) _;have hh:=heap_alloc_new w (.cells #[.pointer (some ⟨H,0,none⟩),.pointer (some ⟨Y,0,none⟩)] 51);have e0:(w.alloc (.cells #[.pointer (some ⟨H,0,none⟩),.pointer (some ⟨Y,0,none⟩)] 51)).cell? ⟨w.heap.size,0,none⟩=some (.pointer (some ⟨H,0,none⟩)):=cell_of_row _ _ _ _ _ _ hh;have e1:(w.alloc (.cells #[.pointer (some ⟨H,0,none⟩),.pointer (some ⟨Y,0,none⟩)] 51)).cell? ⟨w.heap.size,1,none⟩=some (.pointer (some ⟨Y,0,none⟩)):=cell_of_row _ _ _ _ _ _ hh;clear hh;go_in;go_wp2_with(refine aF rfl 51 _ rfl (.agg #[.pointer (some ⟨H,0,none⟩),.pointer (some ⟨Y,0,none⟩)]) rfl #[.pointer (some ⟨H,0,none⟩),.pointer (some ⟨Y,0,none⟩)] (mj _ _ _) ?_)
 generalize(w.alloc (.cells #[.pointer (some ⟨H,0,none⟩),.pointer (some ⟨Y,0,none⟩)] 51))=w0 at*
 have hs0:=B0.size
 obtain⟨d,D⟩:=HD.out w0 B0
 have H1:Hid (Calls Tryz.prog 47 #[.pointer (some ⟨H,0,none⟩)] w0 fun e w'=>e=.returned (.string (iw p.h))∧Below w0.heap.size w0 w'):=(HP.out w0 B0).logs;have y0:w0.cell? ⟨Y,73,none⟩=some (.string (iw p.h)):=D.cell 73 (by omega);have hY:=D.ob.lt;clear D HD HP;generalize iw p.h=lg at*;refine H1.out.mono ?_;rintro e2 w1 ⟨rfl,B1⟩;have z0:=cS B1 y0;have f1:=cS B1 e1;have hs1:=B1.size;have HF:Hid (bC A M L T col w (.returned (.bool true)) w1):=HW.out.idle (B0.trans (B1.mono hs0));clear y0 e0 e1 B1 B0 H1;go_wp2_with fail
 go_ret;exact HF.out
end Go.Proofs.YtmpgjkhchfcjlaaGreatDoor
