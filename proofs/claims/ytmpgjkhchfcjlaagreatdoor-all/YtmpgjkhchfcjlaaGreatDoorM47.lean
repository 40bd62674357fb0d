import Derived.Test.YtmpgjkhchfcjlaaGreatDoorM40
import Derived.Test.YtmpgjkhchfcjlaaGreatDoorM45
namespace Go.Proofs.YtmpgjkhchfcjlaaGreatDoor
open Go.RowKit
set_option maxRecDepth 100000
set_option maxHeartbeats 8000000
theorem mj (a b:Option Addr)(w:World):(Instr.box 51 (.agg #[.pointer a,.pointer b])).run Tryz.prog w=.ok (.pointer (some ⟨w.heap.size,0,none⟩)) (w.alloc (.cells #[.pointer a,.pointer b] 51)):=by kernel_rfl
theorem rQ {w:World}{g n s:Nat}{e:TypeId}{xs:List Value}(h:w.heap[g]?=some (.cells xs.toArray e (0,0)))(hl:xs.length=n*s)(hn:n≤1000000):w.ownsRow 0 e s (.slice (some ⟨g,0,none⟩) n n) n xs:=
 ⟨hl,Or.inr ⟨g,n,_,rfl,Nat.zero_le _,h,Nat.le_refl _,by unfold maxLen;omega,by rw[List.size_toArray,hl],by rw[←hl];exact List.take_length⟩⟩
theorem Jf {w:World}{b:Nat}{v:Value}{l:List ByteArray}(h:w.ownsRow b 9 1 v l.length (mM l)):TL w v l:=by
 rcases aO h with⟨rfl,h0⟩|⟨g,cap,rfl,hg,hm,hn,hc⟩
 ·exact⟨none,0,by rw[h0],by omega,by omega,fun j hj=>by omega⟩
 ·refine⟨_,cap,rfl,hn,hm,fun j hj=>⟨g,0,rfl,hg,fun i hi=> ?_⟩⟩
  rw[Nat.zero_add];exact hc i _ (by simp[mM,List.getElem?_eq_getElem hi,List.getD_eq_getElem?_getD])
theorem Jg {w:World}{b:Nat}{v:Value}{l:List Cr}(h:w.ownsRow b 67 3 v l.length (bH l)):XL w v l:=by
 rcases aO h with⟨rfl,h0⟩|⟨g,cap,rfl,hg,hm,hn,hc⟩
 ·exact⟨none,0,by rw[h0],by omega,by omega,fun j hj=>by omega⟩
 ·exact⟨_,cap,rfl,hn,hm,fun j hj=>⟨g,rfl,hg,hc⟩⟩
theorem Jh {w:World}{b:Nat}{v:Value}{l:List Nat}(h:w.ownsRow b 3 1 v l.length (nW l)):gO w v l.length (fun i=>((l.getD i 0:Nat):Int)):=by
 rcases aO h with⟨rfl,h0⟩|⟨g,cap,rfl,hg,hm,hn,hc⟩
 ·exact .bare none 0 rfl h0
 ·by_cases h0:0<l.length
  ·refine .full g 0 cap rfl (fun i hi=> ?_) hn hm h0;rw[Nat.zero_add];exact hc i _ (by simp[nW,List.getElem?_eq_getElem hi,List.getD_eq_getElem?_getD])
  ·exact .bare _ cap (by congr 1;omega) (by omega)
theorem Kl (l:List dQ):jY l.length (fun j=>(l.getD j fV).text)=mM (l.map (·.text)):=by
 apply List.ext_getElem?;intro j;unfold jY mM;by_cases h:j<l.length
 ·simp[List.getElem?_range h,List.getElem?_eq_getElem h,List.getD_eq_getElem?_getD]
 ·rw[List.getElem?_eq_none (by simp;omega),List.getElem?_eq_none (by simp;omega)]
theorem Dd (w:World)(H:Nat)(v:Value)(G:Nat→Nat)(l:List dQ)(K:KH w H v G l)(hsz:∀k∈l,k.text.size≤24)(hlen:l.length≤1000000):
  Calls Tryz.prog 56 #[.pointer (some ⟨H,0,none⟩)] w fun e w'=>(∃a c,e=.returned (.slice a (bE l).length c)∧w'.ownsRow w.heap.size 3 1 (.slice a (bE l).length c) (bE l).length (nW (bE l)))∧Below w.heap.size w w':=by
 have H0:=hid (kK w H);have H1:Hid (Calls Tryz.prog 95 #[.pointer (some ⟨H,0,none⟩)] w fun e w'=>(∃a c,e=.returned (.slice a (bE l).length c)∧w'.ownsRow w.heap.size 3 1 (.slice a (bE l).length c) (bE l).length (nW (bE l)))∧Below w.heap.size w w'):=by
  refine(AH w H v G l K hsz hlen).mono ?_
  rintro e w' ⟨⟨v',rfl,ho⟩,B⟩
  obtain⟨a,c,rfl⟩:=eC ho
  exact⟨⟨a,c,rfl,ho⟩,B⟩
 clear K;go_in;go_wp2_with fail
 refine H0.out.mono ?_;rintro e w1 ⟨rfl,hw⟩;obtain rfl:=hw.symm;go_wp2_with fail
 refine H1.out.mono ?_;rintro e w2 ⟨⟨a,c,rfl,ho⟩,B⟩;have HR:Hid (w2.ownsRow w.heap.size 3 1 (.slice a (bE l).length c) (bE l).length (nW (bE l))∧Below w.heap.size w w2):=⟨ho,B⟩;clear ho B H0 H1;go_wp2_with fail
 go_ret
 exact⟨⟨a,c,rfl,HR.out.1⟩,HR.out.2⟩
section
variable {w w1 w2:World} {A M L T:Nat} {col:Nat→Nat} {ps:List PP} {i:Nat} {p:PP}
theorem AY.Ji (P:AY w col T i p)(t:bK w)(m:kT w):jC 0 (fun k=>col k=3+2*i) p.H p.g p.h w:=by
 obtain⟨d,e,hu⟩:=P.x
 exact⟨⟨d,e,hu,P.pg.ok,P.oh.inv,P.oh.pos,t,m⟩,fun _ _=>Nat.zero_le _⟩
theorem WW.Ji (h:WW w A M L T col ps)(hp:ps[i]?=some p)(b:Below w.heap.size w w1):jC 0 (fun k=>col k=3+2*i) p.H p.g p.h w1:=((h.below b).pr i p hp).Ji (h.below b).tab (h.below b).pI
theorem WW.doc (h:WW w A M L T col ps)(hp:ps[i]?=some p)(b:Below w.heap.size w w1):∃d,DU w1 (fun k=>col k=4+2*i) p.Y d p.g p.h:=((h.below b).pr i p hp).y
theorem WW.cA (h:WW w A M L T col ps)(b:Below w.heap.size w w1):w1.cell? ⟨A,0,none⟩=some (.pointer (some ⟨M,0,none⟩)):=by
 obtain⟨F,f0,ob,_⟩:=h.ob
 exact cS b ((ob.cell 0 (by decide)).trans (by rw[f0]))
theorem WW.IB (h:WW w A M L T col ps){g:Nat}(hg:w.heap.size≤g):¬col g=1∧3≤g:=⟨fun c=>by have:=(h.lt g (by omega)).1;omega,by have:=h.three;omega⟩
theorem WW.owned {q:Nat}{v:Value}{e:Ending}(h:WW w A M L T col ps)(b:Below w.heap.size w w1)(hv:∀g,v.ownBlock=some g→w.heap.size≤g∧g<w1.heap.size)(o:jh q (fun k=>col k=1) M (fun _=>L) v w1 e w2):bC A M L T col w (.returned (.bool true)) w2:=
 h.uQ (((Sq.of h.bk b).own o.2.1 o.2.2 hv).fin (fun r=>by simp only[bump];(repeat' split)<;>omega))
theorem jC.logs {lo:Nat}{U:Nat→Prop}{H:Nat}{g:PG}{h:HS}(p:jC lo U H g h w):
  Calls Tryz.prog 47 #[.pointer (some ⟨H,0,none⟩)] w fun e w'=>e=.returned (.string (iw h))∧Below w.heap.size w w':=by
 refine IA w H _ ?_
 obtain⟨d,rfl,G⟩:=p.hg
 exact FL G.hu G.inv (by have:=jB G.inv G.ok.EL;omega)
end
theorem IC (kept:List dQ):(bE kept).length≤kept.length:=by
 unfold bE;exact Nat.le_trans (List.length_filter_le _ _) (by simp)
theorem ID (l:List ByteArray):(mM l).length=l.length:=by simp[mM]
def oK:Option RS→Int
 |none=>0
 |some τ=>τ.σ.kind
def oF:Option RS→Int
 |none=>0
 |some τ=>τ.σ.fault
def oA:Option RS→Int
 |none=>0
 |some τ=>τ.σ.place
def oS:Option RS→ByteArray
 |none=>⟨#[]⟩
 |some τ=>strOfNums τ.σ.out
def oN:Option RS→Int
 |none=>0
 |some τ=>τ.σ.steps
def oC:Option RS→ByteArray
 |none=>ByteArray.empty
 |some τ=>J3 τ.cnt
theorem Kr.form {w w':World}{e:Ending}{r:Option RS}{k:Int}(h:Kr w e w' r k):
  ∃p n cap xs,e=.returned (.tuple #[.agg #[.int .i64 (oK r),.int .i64 (oF r),.int .i64 (oA r),.string (oS r),.int .i64 (oN r)],.slice p n cap,.int .i64 k])∧n≤64∧w'.ownsRow w.heap.size 5 1 (.slice p n cap) n xs∧
   (∀wx:World,(∀g,(Value.slice p n cap).ownBlock=some g→wx.heap[g]?=w'.heap[g]?)→(convert 39 9 (.slice p n cap)).run Tryz.prog wx=.ok (.string (oC r)) wx):=by
 cases r with
 |none=>
  obtain⟨_,_,he⟩:=h
  exact⟨none,0,0,[],he,by omega,World.ownsRow_nil _ _ _ _,fun wx _=>BP wx⟩
 |some τ=>
  obtain⟨_,rfl,g,hg,hc,he⟩:=h
  exact⟨some ⟨g,0,none⟩,64,64,_,he,by omega,Hl hc hg,fun wx hx=>BO ((hx g rfl).trans hc)⟩
theorem Dh {w:World}{base:Nat}{v:Value}{cs:List Int}(h:w.ownsRow base 5 1 v cs.length (cs.map (Value.int .u8))):b9 w v cs.length (fun i=>cs.getD i 0):=by
 by_cases h0:0<cs.length
 ·obtain⟨g,cap,rfl,_,hr,hm,hc⟩:=iG h h0
  refine .full g 0 cap rfl ⟨fun i hi=> ?_,hr,hm,h0⟩;rw[Nat.zero_add];refine hc i _ ?_;rw[List.getElem?_map,List.getElem?_eq_getElem hi,List.getD_eq_getElem?_getD,List.getElem?_eq_getElem hi];rfl
 ·obtain⟨p,cap,rfl⟩:=jD h
  exact .bare p cap (by congr 1;omega) (by omega)
theorem uZ (W0:Nat){w:World}{B:Nat→Prop}{M:Nat}{L0:Nat→Nat}(hb:Bk w B M L0)(hl:∀r,(L0 r+4)*24≤140737488355328)(hw:w.cell? ⟨W0,0,none⟩=some (.pointer (some ⟨M,0,none⟩)))(hWB:¬B W0)(hT:bK w)(p n f:Int){cv:Value}{L:Nat}{c:Nat→Int}(C:iD B w cv L c)(s t:ByteArray)(sd:Int)(b:Option Addr)(k e:Nat)(kd:Int)(hkd:kd=2∨kd=4):
  Calls Tryz.prog 9 #[.pointer (some ⟨W0,0,none⟩),.agg (dw kd p n f cv s t sd (.slice b k e))] w (jJ B M L0 w):=by
 obtain⟨pc,ax,rfl⟩:=C.cR.form
 have hW0:=block_lt_of_cell hw;have O:=Da w kd p n f (.slice pc L ax) s t sd (.slice b k e);have O0:=O.c0;have O3:=O.c3;have O4:=O.c4;have O5:=O.c5;have HO:Hid _:=O;clear O;have HBL:Hid _:=hb.lt;have HB:=hid hb;clear hb;rcases hkd with rfl|rfl
 case' inl=>
  go_in;go_wp2_with(refine aF rfl 43 _ rfl (.agg (dw 2 p n f (.slice pc L ax) s t sd (.slice b k e))) rfl (dw 2 p n f (.slice pc L ax) s t sd (.slice b k e)) (gI _ _ _ _ _ _ _ _ _ _ _ _ _) ?_)
  generalize(w.alloc (.cells (dw 2 p n f (.slice pc L ax) s t sd (.slice b k e)) 43))=w0 at*
  have hz0:=HO.out.size;have B0:=HO.out.dY;have CA:iD B w0 (.slice pc L ax) L c:=⟨C.cR.below B0,C.byte,C.most,fun h0 g e=>⟨(C.out h0 g e).1,by have:=(C.out h0 g e).2;omega⟩⟩
  obtain⟨wa,ha⟩:∃x,x=w0:=⟨_,rfl⟩
  have Ba:Below w0.heap.size w0 wa:=by rw[ha];exact Below.refl _ _
  rw[←ha]at CA;clear C;rw[←ha];clear ha O0 O3 O4 O5
 case' inr=>
  go_in;go_wp2_with(refine aF rfl 43 _ rfl (.agg (dw 4 p n f (.slice pc L ax) s t sd (.slice b k e))) rfl (dw 4 p n f (.slice pc L ax) s t sd (.slice b k e)) (gI _ _ _ _ _ _ _ _ _ _ _ _ _) ?_)
  generalize(w.alloc (.cells (dw 4 p n f (.slice pc L ax) s t sd (.slice b k e)) 43))=w0 at*
  have hz0:=HO.out.size;have B0:=HO.out.dY;by_cases hV:∃N,VP c L N
  case neg=>
   have HPB:=hid (rM w0 _ L c C.byte (C.cR.below B0) hV);have HFB:Hid (∀wx,Below w0.heap.size w0 wx→jJ B M L0 w (.returned (.bool true)) wx):=fun wx q=>(Sq.of HB.out (B0.trans (q.mono B0.size))).fin (fun r=>Nat.le_add_right _ _)
   clear C hT HB HBL B0;refine HPB.out.mono ?_;rintro _ wa ⟨rfl,Ba⟩;have HS:=HFB.out wa Ba;have HS':=hid HS;clear HFB Ba HS;go_wp2_with fail
   go_ret;exact HS'.out
  obtain⟨N,V⟩:=hV
  have HPG:Hid (Calls Tryz.prog 21 #[.slice pc L ax] w0 fun e w'=>∃bs vm vq,w0.heap.size≤bs∧TR bs w' vm vq (bL c N L) (bf c N L)∧e=.returned (.tuple #[vm,vq,.int .i64 0])∧Below w0.heap.size w0 w'):=by
   have hC:=C.cR.below B0
   cases hC with
   |bare p' cap' hv hL=>have:=V.lt V.one;omega
   |full cb co cap' hv hC=>
    rw[hv]
    exact(rL w0 cb co L cap' N c V.Je V.most C.byte hC).mono fun e w' h=>h
  refine HPG.out.mono ?_;rintro _ wa ⟨bs,vm,vq,hbs,TA,rfl,Ba⟩
  obtain⟨pc',capc',rfl⟩:=jD TA.bI
  obtain⟨pq,capq,rfl⟩:=jD TA.bR
  have hq:=V.xM;have CA:iD B wa (.slice pc' (bL c N L).length capc') (bL c N L).length (fun i=>(bL c N L).getD i 0):=⟨Dh TA.bI,fun i hi=>by
   show 0≤(bL c N L).getD i 0∧(bL c N L).getD i 0≤255;rw[List.getD_eq_getElem?_getD,List.getElem?_eq_getElem hi];exact V.B7 L (Nat.le_refl _) _ (List.getElem_mem hi),by rw[iQ];omega,fun _ g e=>by
   have:=TA.bI.lt g e
   exact⟨fun q=>by have:=(HBL.out.1 g q).1;omega,this.2⟩⟩
  generalize(fun i=>(bL c N L).getD i 0)=c' at*
  generalize(bL c N L).length=L' at*
  generalize(bf c N L).length=lf at*
  clear C TA V HPG O4 O0 O3 O5 hq hbs;go_wp2_with fail
  obtain⟨L,hLL⟩:∃x,x=L':=⟨_,rfl⟩
  obtain⟨c,hcc⟩:∃x,x=c':=⟨_,rfl⟩
  obtain⟨pc,hpc⟩:∃x,x=pc':=⟨_,rfl⟩
  obtain⟨ax,hcp⟩:∃x,x=capc':=⟨_,rfl⟩
  rw[←hLL,←hcc,←hpc,←hcp]at CA;rw[←hLL,←hpc,←hcp];clear hLL hcc hpc hcp
 all_goals
  have BA:=B0.trans (Ba.mono B0.size);have sa:=Ba.size;have HOP:Hid (wa.cell? ⟨w.heap.size,0,none⟩=_∧wa.cell? ⟨w.heap.size,3,none⟩=_∧wa.cell? ⟨w.heap.size,5,none⟩=_):=⟨cS Ba HO.out.c0,cS Ba HO.out.c3,cS Ba HO.out.c5⟩
  refine(ld wa (.slice pc L ax) L c CA.cR CA.most).mono ?_
  rintro e1 w1 ⟨g,cap,rfl,hown,B1⟩;have B01:=BA.trans (B1.mono BA.size);have hg:=hown.lt g rfl
  obtain⟨Cin,hcap,hcap'⟩:=j7 hown
  have hL:=CA.most;have hi1:(L:Int)≤(cap:Int):=by omega
  have HOWN:=hid (dN hown (Nat.zero_le _));have a0:=cS B1 HOP.out.1;have a3:=cS B1 HOP.out.2.1;have a5:=cS B1 HOP.out.2.2;have hs1:=B1.size;clear hown HO B0 Ba;go_wp2_with fail
  refine(DS w1 _ L c CA.byte Cin (hT.below B01) s f).mono ?_
  intro e2 w2 hR1
  obtain⟨r,kk,A1⟩:=Hj hR1
  obtain⟨pl,nl,capl,xl,rfl,hnl,hol,hcvl⟩:=A1.form
  have B2:=A1.1;have B02:=B01.trans (B2.mono B01.size);have hs2:=B2.size;have b3:=cS B2 a3;have b5:=cS B2 a5;have hO2:w.heap.size<w2.heap.size:=by omega
  have HAN:Hid (sH c L s f w1 (.returned (.tuple #[.agg #[.int .i64 (oK r),.int .i64 (oF r),.int .i64 (oA r),.string (oS r),.int .i64 (oN r)],.slice pl nl capl,.int .i64 kk])) w2∧Kr w1 (.returned (.tuple #[.agg #[.int .i64 (oK r),.int .i64 (oF r),.int .i64 (oA r),.string (oS r),.int .i64 (oN r)],.slice pl nl capl,.int .i64 kk])) w2 r kk):=⟨hR1,A1⟩;have HOL:=hid hol;have HCL:=hid hcvl;clear hR1 A1 hol hcvl
  obtain⟨q1,hq1⟩:∃x,oK r=x:=⟨_,rfl⟩
  obtain⟨q2,hq2⟩:∃x,oF r=x:=⟨_,rfl⟩
  obtain⟨q3,hq3⟩:∃x,oA r=x:=⟨_,rfl⟩
  obtain⟨q4,hq4⟩:∃x,oS r=x:=⟨_,rfl⟩
  obtain⟨q5,hq5⟩:∃x,oN r=x:=⟨_,rfl⟩
  have HQ:Hid (oK r=q1∧oF r=q2∧oA r=q3∧oS r=q4∧oN r=q5):=⟨hq1,hq2,hq3,hq4,hq5⟩;rw[hq1,hq2,hq3,hq4,hq5];clear hq1 hq2 hq3 hq4 hq5;go_wp2_with fail
  have B2A:Below w2.heap.size w2 (w2.alloc (.cells #[.int .i64 q1,.int .i64 q2,.int .i64 q3,.string q4,.int .i64 q5] 74)):=(Below.refl _ _).alloc (Nat.le_refl _) _;have h2A:=heap_alloc_new w2 (.cells #[.int .i64 q1,.int .i64 q2,.int .i64 q3,.string q4,.int .i64 q5] 74);have hz2:(w2.alloc (.cells #[.int .i64 q1,.int .i64 q2,.int .i64 q3,.string q4,.int .i64 q5] 74)).heap.size=w2.heap.size+1:=by simp
  generalize(w2.alloc (.cells #[.int .i64 q1,.int .i64 q2,.int .i64 q3,.string q4,.int .i64 q5] 74))=w2a at*
  have B02A:=B02.trans (B2A.mono B02.size)
  refine(E6 w2a _ L c CA.byte (CA.cR.below (B1.trans ((B2.trans (B2A.mono B2.size)).mono B1.size))) s f).mono ?_
  intro e3' w3 hR2;have A2:=E7 HAN.out.1 HAN.out.2 hR2
  obtain⟨pm,nm,JI,xm,rfl,hnm,hom,hcvm⟩:=A2.form
  rw[HQ.out.1,HQ.out.2.1,HQ.out.2.2.1,HQ.out.2.2.2.1,HQ.out.2.2.2.2];have B3:=A2.1;have W23:=B2A.trans (B3.mono B2A.size);have h3A:=(B3.block w2.heap.size (by omega)).trans h2A;have hs3:=B3.size;have hbl:∀gg,(Value.slice pl nl capl).ownBlock=some gg→w1.heap.size≤gg∧gg<w2.heap.size:=fun gg hgg=>HOL.out.lt gg hgg
  have cv1:=HCL.out (w3.alloc (.cells #[.int .i64 q1,.int .i64 q2,.int .i64 q3,.string q4,.int .i64 q5] 74)) (fun gg hgg=>(Below.heap_alloc w3 _ gg (by have:=hbl gg hgg;omega)).trans (W23.block gg (hbl gg hgg).2));have cv2:=hcvm (w3.alloc (.cells #[.int .i64 q1,.int .i64 q2,.int .i64 q3,.string q4,.int .i64 q5] 74)) (fun gg hgg=>Below.heap_alloc w3 _ gg (hom.lt gg hgg).2);generalize oC r=sc at cv1 cv2;have i0:w3.cell? ⟨w2.heap.size,0,none⟩=some (.int .i64 q1):=cell_of_row _ _ _ _ _ _ h3A;have i1:w3.cell? ⟨w2.heap.size,1,none⟩=some (.int .i64 q2):=cell_of_row _ _ _ _ _ _ h3A;have i2:w3.cell? ⟨w2.heap.size,2,none⟩=some (.int .i64 q3):=cell_of_row _ _ _ _ _ _ h3A;have i3:w3.cell? ⟨w2.heap.size,3,none⟩=some (.string q4):=cell_of_row _ _ _ _ _ _ h3A;have i4:w3.cell? ⟨w2.heap.size,4,none⟩=some (.int .i64 q5):=cell_of_row _ _ _ _ _ _ h3A;have hs23:w2.heap.size<w3.heap.size:=by omega
  have W24:Below w2.heap.size w2 (w3.alloc (.cells #[.int .i64 q1,.int .i64 q2,.int .i64 q3,.string q4,.int .i64 q5] 74)):=W23.trans (((Below.refl w3.heap.size w3).alloc (Nat.le_refl _) _).mono W23.size);have W14:=B2.trans (W24.mono B2.size);have B04:=B01.trans (W14.mono B01.size);have hw4:=cS B04 hw;have HLK:Hid (Calls Tryz.prog 7 #[.pointer (some ⟨M,0,none⟩)] (w3.alloc (.cells #[.int .i64 q1,.int .i64 q2,.int .i64 q3,.string q4,.int .i64 q5] 74)) fun e w'=>e=.returned (.bool true)∧Below (w3.alloc (.cells #[.int .i64 q1,.int .i64 q2,.int .i64 q3,.string q4,.int .i64 q5] 74)).heap.size (w3.alloc (.cells #[.int .i64 q1,.int .i64 q2,.int .i64 q3,.string q4,.int .i64 q5] 74)) w'):=gV (HB.out.below B04) (fun r=>by have:=hl r;omega);have HB04:Hid (Below w.heap.size w (w3.alloc (.cells #[.int .i64 q1,.int .i64 q2,.int .i64 q3,.string q4,.int .i64 q5] 74))∧Below w1.heap.size w1 (w3.alloc (.cells #[.int .i64 q1,.int .i64 q2,.int .i64 q3,.string q4,.int .i64 q5] 74))∧Below w2.heap.size w2 (w3.alloc (.cells #[.int .i64 q1,.int .i64 q2,.int .i64 q3,.string q4,.int .i64 q5] 74))∧Below wa.heap.size wa w1):=⟨B04,W14,W24,B1⟩;clear hR2 A2 hom hcvm HCL HAN h3A h2A HQ BA B01 B1 B2 B02 B2A B02A B3 B04 W14 W23 W24 Cin HOP;go_wp2_with(go_at_call 16;refine(ju _ _).mono ?_;rintro e' w' ⟨rfl,hw'⟩;obtain rfl:=hw'.symm)
  generalize(w3.alloc (.cells #[.int .i64 q1,.int .i64 q2,.int .i64 q3,.string q4,.int .i64 q5] 74))=w4 at*
  clear cv1 cv2 i0 i1 i2 i3 i4;refine HLK.out.mono ?_;rintro e5' w5 ⟨rfl,B5⟩
  obtain⟨B04,W14,W24,B1⟩:=HB04.out
  have B05:=B04.trans (B5.mono B04.size);have W15:=W14.trans (B5.mono W14.size);have W25:=W24.trans (B5.mono W24.size);have hw5:=cS B05 hw;have hsz5:=W25.size;have hsz15:=W15.size;have HS5:=hid (Sq.of HB.out B05);have HOB:=kN HS5.out.bk (hl 4) (.slice pl nl capl) nl xl (ay (dN HOL.out (Nat.zero_le _)) (fun gg hgg=>W25.block gg (hbl gg hgg).2)) (by omega) (fun gg hgg=>⟨fun q=>by have:=(HBL.out.1 gg q).1;have:=hbl gg hgg;omega,by have:=hbl gg hgg;have:=HBL.out.2;omega⟩);have HOB':=hid HOB;have HX5:Hid (b9 w5 (.slice pc L ax) L c∧w5.heap[g]?=w1.heap[g]?):=⟨CA.cR.below (B1.trans (W15.mono B1.size)),W15.block g hg.2⟩;clear HOB B04 W14 W24 B1 B05 W15 W25 B5 HLK HB04 HOL;go_wp2_with fail
  refine HOB'.out.mono ?_;rintro e6' w6 ⟨rfl,f6,b6⟩;have S6:=HS5.out.own f6 b6 (fun q hq=>by have:=hbl q hq;omega);have hbg:(Value.slice pl nl capl).ownBlock≠some g:=fun q=>by have:=hbl g q;omega
  have hgB:¬B g:=fun q=>by have:=(HBL.out.1 g q).1;omega
  obtain⟨t1,t2⟩:=f6.stay (k:=g) (by omega) hgB hbg
  have hw6:=(World.cell?_of_block (w:=w5) (a:=⟨W0,0,none⟩) (f6.stay (k:=W0) (by omega) hWB (fun q=>by have:=hbl W0 q;omega)).1).trans hw5;have hC6:b9 w6 (.slice pc L ax) L c:=HX5.out.1.same (fun h0 gg e=>(f6.stay (k:=gg) (by have:=(CA.out h0 gg e).2;omega) (CA.out h0 gg e).1 (fun q=>by have:=hbl gg q;have:=(CA.out h0 gg e).2;omega)).1);have WH:=jZ S6.bk (hl 8) g cap L c (.slice pc L ax) (ay HOWN.out (fun k hk=>by
   obtain rfl:g=k:=by simpa[Value.ownBlock]using hk
   exact t1.trans HX5.out.2)) ⟨t2,by have:=HBL.out.2;omega⟩ hC6 (fun h0 e=>by have:=(CA.out h0 g e).2;omega) hL
  have HS6:=hid S6;have WH':=hid WH;have hs6:=f6.size;clear WH S6 f6 b6 t1 t2 hC6 HOB' HX5 HOWN HS5 HB HBL CA hbl hbg hgB;go_wp2_with fail
  refine WH'.out.mono ?_;rintro e7' w7 ⟨rfl,f7,b7⟩;have HF:Hid (jJ B M L0 w (.returned (.bool true)) w7):=(HS6.out.own f7 b7 (fun q hq=>by
   obtain rfl:g=q:=by simpa[Value.ownBlock]using hq
   omega)).fin (fun r=>by simp only[bump];(repeat' split)<;>omega)
  clear f7 b7;go_wp2_with fail
  go_ret;exact HF.out
theorem rT {w:World}{base:Nat}{v:Value}{fs:List Int}(h:w.ownsRow base 3 1 v fs.length (fs.map (Value.int .i64))):gO w v fs.length (fun i=>fs.getD i 0):=by
 by_cases h0:0<fs.length
 ·obtain⟨g,cap,rfl,_,hr,hm,hc⟩:=iG h h0
  refine .full g 0 cap rfl (fun i hi=> ?_) hr hm h0;rw[Nat.zero_add];refine hc i _ ?_;rw[List.getElem?_map,List.getElem?_eq_getElem hi,List.getD_eq_getElem?_getD,List.getElem?_eq_getElem hi];rfl
 ·obtain⟨p,cap,rfl⟩:=jD h
  exact .bare p cap (by congr 1;omega) (by omega)
theorem xU (W0:Nat){w:World}{B:Nat→Prop}{M:Nat}{L0:Nat→Nat}(hb:Bk w B M L0)(hl:∀r,(L0 r+4)*24≤140737488355328)(hw:w.cell? ⟨W0,0,none⟩=some (.pointer (some ⟨M,0,none⟩)))(hWB:¬B W0)(hT:bK w)(p n f:Int){cv:Value}{L:Nat}{c:Nat→Int}(C:iD B w cv L c)(s t:ByteArray)(sd:Int)(b:Option Addr)(k e:Nat):
  Calls Tryz.prog 9 #[.pointer (some ⟨W0,0,none⟩),.agg (dw 3 p n f cv s t sd (.slice b k e))] w (jJ B M L0 w):=by
 obtain⟨pc,ax,rfl⟩:=C.cR.form
 have hW0:=block_lt_of_cell hw;have O:=Da w 3 p n f (.slice pc L ax) s t sd (.slice b k e);have O0:=O.c0;have O3:=O.c3;have O4:=O.c4;have O5:=O.c5;have HO:Hid _:=O;clear O;have HBL:Hid _:=hb.lt;have HB:=hid hb
 obtain⟨cs,fs,kk,hcl,hfl,hXP,hRP⟩:=A0 L c C.byte
 have HXP:=hid hXP;have HRP:=hid hRP;have HF1:Hid (fs.length≤1000):=by show fs.length≤1000;omega
 clear hXP hRP hb;go_in;go_wp2_with(refine aF rfl 43 _ rfl (.agg (dw 3 p n f (.slice pc L ax) s t sd (.slice b k e))) rfl (dw 3 p n f (.slice pc L ax) s t sd (.slice b k e)) (gI _ _ _ _ _ _ _ _ _ _ _ _ _) ?_)
 generalize(w.alloc (.cells (dw 3 p n f (.slice pc L ax) s t sd (.slice b k e)) 43))=w0 at*
 have hz0:=HO.out.size;have B0:=HO.out.dY
 refine(ld w0 (.slice pc L ax) L c (C.cR.below B0) C.most).mono ?_
 rintro e1 w1 ⟨g,cap,rfl,hown,B1⟩;have B01:=B0.trans (B1.mono B0.size);have hg:=hown.lt g rfl
 obtain⟨Cin,hcap,hcap'⟩:=j7 hown
 have hL:=C.most;have hi1:(L:Int)≤(cap:Int):=by omega
 have HOWN:=hid (dN hown (Nat.zero_le _));have a0:=cS B1 HO.out.c0;have hs1:=B1.size;clear hown HO O0 O3 O4 O5;go_wp2_with fail
 refine(HXP.out w1 _ Cin (hT.below B01)).mono ?_
 rintro _ w2 ⟨bs1,vl,vp,hbs1,T1,rfl,B2⟩
 obtain⟨pl,capl,rfl⟩:=jD T1.bI
 obtain⟨pp,capp,rfl⟩:=jD T1.bR
 have B02:=B01.trans (B2.mono B01.size);have hs2:=B2.size;have HT1:=hid T1;clear T1;go_wp2_with fail
 refine(HRP.out w2 _ (C.cR.below B02)).mono ?_
 rintro _ w3 ⟨bs2,vm,vq,hbs2,T2,rfl,B3⟩
 obtain⟨pm,JI,rfl⟩:=jD T2.bI
 obtain⟨pq,capq,rfl⟩:=jD T2.bR
 have B03:=B02.trans (B3.mono B02.size);have W13:=B2.trans (B3.mono B2.size);have hs3:=B3.size;have T1:=HT1.out;have hbl:∀gg,(Value.slice pl cs.length capl).ownBlock=some gg→w1.heap.size≤gg∧gg<w2.heap.size:=fun gg hgg=>by have:=T1.bI.lt gg hgg;omega
 have hbp:∀gg,(Value.slice pp fs.length capp).ownBlock=some gg→w1.heap.size≤gg∧gg<w2.heap.size:=fun gg hgg=>by have:=T1.bR.lt gg hgg;omega
 have n1:=rT (eW T1.bR (fun gg hgg=>B3.block gg (hbp gg hgg).2));have HSN:Hid (Calls Tryz.prog 29 #[.slice pp fs.length capp,.slice pq fs.length capq] w3 fun e w'=>Sm w3 w'∧e=.returned (.bool true)):=kU w3 _ _ _ _ n1 (rT T2.bR) (by omega);have HCV:Hid (∀wx,Sm w3 wx→(convert 39 9 (.slice pl cs.length capl)).run Tryz.prog wx=.ok (.string (strOfNums cs)) wx∧(convert 39 9 (.slice pm cs.length JI)).run Tryz.prog wx=.ok (.string (strOfNums cs)) wx):=fun wx hS=>
  ⟨qG (eW T1.bI (fun gg hgg=>by rw[hS.heap];exact B3.block gg (hbl gg hgg).2)),qG (eW T2.bI (fun gg _=>by rw[hS.heap]))⟩
 have HB03:Hid (Below w.heap.size w w3∧Below w1.heap.size w1 w3∧Below w2.heap.size w2 w3):=⟨B03,W13,B3⟩;clear n1 T1 T2 HXP HRP B0 B01 B1 B2 B02 B3 B03 W13 Cin;go_wp2_with fail
 refine HSN.out.mono ?_;rintro _ w4 ⟨S4,rfl⟩;have cv1:=(HCV.out w4 S4).1;have cv2:=(HCV.out w4 S4).2;generalize strOfNums cs=sc at cv1 cv2;have HB04:Hid (Below w.heap.size w w4∧Below w1.heap.size w1 w4∧Below w2.heap.size w2 w4):=⟨FE HB03.out.1 S4,FE HB03.out.2.1 S4,FE HB03.out.2.2 S4⟩;have hw4:=cS HB04.out.1 hw;have HLK:Hid (Calls Tryz.prog 7 #[.pointer (some ⟨M,0,none⟩)] w4 fun e w'=>e=.returned (.bool true)∧Below w4.heap.size w4 w'):=gV (HB.out.below HB04.out.1) (fun r=>by have:=hl r;omega);clear HSN HCV S4;go_wp2_with(go_at_call 16;refine(ju _ _).mono ?_;rintro e' w' ⟨rfl,hw'⟩;obtain rfl:=hw'.symm)
 clear cv1 cv2;refine HLK.out.mono ?_;rintro e5' w5 ⟨rfl,B5⟩;have B05:=HB04.out.1.trans (B5.mono HB04.out.1.size);have W15:=HB04.out.2.1.trans (B5.mono HB04.out.2.1.size);have W25:=HB04.out.2.2.trans (B5.mono HB04.out.2.2.size);have hw5:=cS B05 hw;have hsz5:=W25.size;have hsz15:=W15.size;have T1:=HT1.out;have HAP:Hid (∀gg,(Value.slice pp fs.length capp).ownBlock=some gg→(Value.slice pl cs.length capl).ownBlock≠some gg):=fun gg h1 h2=>by
  rcases T1.apart with a|a
  ·rw[a]at h2;cases h2
  ·exact a (h2.trans h1.symm)
 have HS5:=hid (Sq.of HB.out B05);have HNB:Hid (∀k,w.heap.size≤k→¬B k∧3≤k):=fun k hk=>⟨fun q=>by have:=(HBL.out.1 k q).1;omega,by have:=HBL.out.2;omega⟩
 have HOB:=kN HS5.out.bk (hl 4) (.slice pl cs.length capl) cs.length _ (ay (dN T1.bI (Nat.zero_le _)) (fun gg hgg=>W25.block gg (hbl gg hgg).2)) (by omega) (fun gg hgg=>HNB.out gg (by have:=hbl gg hgg;omega));have HOB':=hid HOB;have HX5:Hid (b9 w5 (.slice pc L ax) L c∧w5.heap[g]?=w1.heap[g]?∧Below w2.heap.size w2 w5):=⟨C.cR.below B05,W15.block g hg.2,W25⟩;clear HOB T1 B5 B05 W15 W25 HLK HB03 HB04;go_wp2_with fail
 refine HOB'.out.mono ?_;rintro e6' w6 ⟨rfl,f6,b6⟩;have hs6:=f6.size;have HS6:Hid (Sq B M (bump L0 0) w w6 (Gr (fun k=>B k∨(Value.slice pl cs.length capl).ownBlock=some k) w5 w6)):=HS5.out.own f6 b6 (fun q hq=>by have:=hbl q hq;omega);have st6:∀k,k<w5.heap.size→¬B k→(Value.slice pl cs.length capl).ownBlock≠some k→w6.heap[k]?=w5.heap[k]?∧¬Gr (fun k=>B k∨(Value.slice pl cs.length capl).ownBlock=some k) w5 w6 k:=fun k h1 h2 h3=>f6.stay h1 h2 h3
 have hbg:(Value.slice pl cs.length capl).ownBlock≠some g:=fun q=>by have:=hbl g q;omega
 have hw6:=(World.cell?_of_block (w:=w5) (a:=⟨W0,0,none⟩) (st6 W0 (by omega) hWB (fun q=>by have:=hbl W0 q;omega)).1).trans hw5;have hC6:b9 w6 (.slice pc L ax) L c:=HX5.out.1.same (fun h0 gg e=>(st6 gg (by have:=(C.out h0 gg e).2;omega) (C.out h0 gg e).1 (fun q=>by have:=hbl gg q;have:=(C.out h0 gg e).2;omega)).1)
 obtain⟨t1,t2⟩:=st6 g (by omega) (HNB.out g (by omega)).1 hbg
 have tW:=(st6 W0 (by omega) hWB (fun q=>by have:=hbl W0 q;omega)).2;have HX6:Hid (b9 w6 (.slice pc L ax) L c∧w6.heap[g]?=w1.heap[g]?∧¬Gr (fun k=>B k∨(Value.slice pl cs.length capl).ownBlock=some k) w5 w6 g∧∀h0:0<L,∀gg,(Value.slice pc L ax).ownBlock=some gg→¬Gr (fun k=>B k∨(Value.slice pl cs.length capl).ownBlock=some k) w5 w6 gg):=⟨hC6,t1.trans HX5.out.2.1,t2,fun h0 gg e=>(st6 gg (by have:=(C.out h0 gg e).2;omega) (C.out h0 gg e).1 (fun q=>by have:=hbl gg q;have:=(C.out h0 gg e).2;omega)).2⟩;have fp:∀gg,(Value.slice pp fs.length capp).ownBlock=some gg→w6.heap[gg]?=w2.heap[gg]?∧¬Gr (fun k=>B k∨(Value.slice pl cs.length capl).ownBlock=some k) w5 w6 gg∧3≤gg:=fun gg hgg=>by
  obtain⟨u1,u2⟩:=hbp gg hgg
  obtain⟨n1,n2⟩:=HNB.out gg (by omega)
  obtain⟨s1,s2⟩:=st6 gg (by omega) n1 (HAP.out gg hgg)
  exact⟨s1.trans (HX5.out.2.2.block gg u2),s2,n2⟩
 have own6:=ay (dN HT1.out.bR (Nat.zero_le _)) (fun gg hgg=>(fp gg hgg).1);have HOP:=lJ HS6.out.bk (hl 5) (.slice pp fs.length capp) fs.length _ own6 HF1.out (fun gg hgg=>(fp gg hgg).2);generalize hC6e:Gr (fun k=>B k∨(Value.slice pl cs.length capl).ownBlock=some k) w5 w6=C6 at*;have HOP':=hid HOP;clear HOP f6 b6 st6 fp own6 hC6 t1 t2 HOB' HX5 HS5 HB HT1 HAP hC6e;go_wp2_with fail
 refine HOP'.out.mono ?_;rintro e7' w7 ⟨rfl,f7,b7⟩;have S7:=HS6.out.own f7 b7 (fun q hq=>by have:=hbp q hq;omega);have hw7:=(World.cell?_of_block (w:=w6) (a:=⟨W0,0,none⟩) (f7.stay (k:=W0) (by omega) tW (fun q=>by have:=hbp W0 q;omega)).1).trans hw6
 obtain⟨t1,t2⟩:=f7.stay (k:=g) (by omega) HX6.out.2.2.1 (fun q=>by have:=hbp g q;omega)
 have hC7:b9 w7 (.slice pc L ax) L c:=HX6.out.1.same (fun h0 gg e=>(f7.stay (k:=gg) (by have:=(C.out h0 gg e).2;omega) (HX6.out.2.2.2 h0 gg e) (fun q=>by have:=hbp gg q;have:=(C.out h0 gg e).2;omega)).1);have WH:=jZ S7.bk (hl 8) g cap L c (.slice pc L ax) (ay HOWN.out (fun k hk=>by
  obtain rfl:g=k:=by simpa[Value.ownBlock]using hk
  exact t1.trans HX6.out.2.1)) ⟨t2,by have:=HBL.out.2;omega⟩ hC7 (fun h0 e=>by have:=(C.out h0 g e).2;omega) hL
 have HS7:=hid S7;have WH':=hid WH;have hs7:=f7.size;clear WH S7 f7 b7 t1 t2 hC7 HOP' HX6 HOWN HS6 HBL C hbl hbp hbg HNB tW;go_wp2_with fail
 refine WH'.out.mono ?_;rintro e8' w8 ⟨rfl,f8,b8⟩;have HF:Hid (jJ B M L0 w (.returned (.bool true)) w8):=(HS7.out.own f8 b8 (fun q hq=>by
  obtain rfl:g=q:=by simpa[Value.ownBlock]using hq
  omega)).fin (fun r=>by simp only[bump];(repeat' split)<;>omega)
 clear f8 b8;go_wp2_with fail
 go_ret;exact HF.out
theorem kT.on {w w':World}(h:kT w)(b:Below w.heap.size w w'):kT w':=h.below b (World.block_lt_of_cell? w ⟨1,0,none⟩ (h 0 (by omega)))
def FT (w:World)(e:Ending)(w':World):Prop:=e=.returned (.bool true)∧Below w.heap.size w w'
section
variable (w:World) (p n f:Int) (pc:Option Addr) (L ax:Nat) (s t:ByteArray) (sd:Int) (b:Option Addr) (k e:Nat)
theorem FU (o:Option (List Int))(HX:Hid (∀w',Below w.heap.size w w'→Calls Tryz.prog 32 #[.string s,.int .i64 n] w' (fq w' o)))(HR:Hid (∀w',Calls Tryz.prog 33 #[.string s,.int .i64 n] w' (fq w' o))):
  Calls Tryz.prog 10 #[.agg (dw 5 p n f (.slice pc L ax) s t sd (.slice b k e))] w (FT w):=by
 have B0:Below w.heap.size w (w.alloc (.cells (dw 5 p n f (.slice pc L ax) s t sd (.slice b k e)) 43)):=(Below.refl _ _).alloc (Nat.le_refl _) _;have hz0:(w.alloc (.cells (dw 5 p n f (.slice pc L ax) s t sd (.slice b k e)) 43)).heap.size=w.heap.size+1:=by simp
 have hh0:=heap_alloc_new w (.cells (dw 5 p n f (.slice pc L ax) s t sd (.slice b k e)) 43);have e0:(w.alloc (.cells (dw 5 p n f (.slice pc L ax) s t sd (.slice b k e)) 43)).cell? ⟨w.heap.size,0,none⟩=some (.int .i64 5):=cell_of_row _ _ _ _ _ _ hh0;have e2:(w.alloc (.cells (dw 5 p n f (.slice pc L ax) s t sd (.slice b k e)) 43)).cell? ⟨w.heap.size,2,none⟩=some (.int .i64 n):=cell_of_row _ _ _ _ _ _ hh0;have e5:(w.alloc (.cells (dw 5 p n f (.slice pc L ax) s t sd (.slice b k e)) 43)).cell? ⟨w.heap.size,5,none⟩=some (.string s):=cell_of_row _ _ _ _ _ _ hh0;clear hh0;go_in;go_wp2_with(refine aF rfl 43 _ rfl (.agg (dw 5 p n f (.slice pc L ax) s t sd (.slice b k e))) rfl (dw 5 p n f (.slice pc L ax) s t sd (.slice b k e)) (gI _ _ _ _ _ _ _ _ _ _ _ _ _) ?_)
 generalize(w.alloc (.cells (dw 5 p n f (.slice pc L ax) s t sd (.slice b k e)) 43))=w0 at*
 refine(HX.out w0 B0).mono ?_
 rintro e' w1 ⟨B1,rfl⟩;have f2:=(B1.cell (p:=⟨w.heap.size,2,none⟩) (by show w.heap.size<_;omega)).trans e2;have f5:=(B1.cell (p:=⟨w.heap.size,5,none⟩) (by show w.heap.size<_;omega)).trans e5;have hz1:=B1.size;have HB1:=hid (B0.trans (B1.mono B0.size));clear B1 e0 e2 e5
 cases o with
 |none=>
  go_wp2_with fail
  refine(HR.out w1).mono ?_
  rintro e' w2 ⟨B2,rfl⟩;go_wp2_with fail
  go_ret
  exact⟨rfl,HB1.out.trans (B2.mono HB1.out.size)⟩
 |some l=>
  go_wp2_with fail
  refine(HR.out w1).mono ?_
  rintro e' w2 ⟨B2,rfl⟩;go_wp2_with fail
  go_ret
  exact⟨rfl,HB1.out.trans (B2.mono HB1.out.size)⟩
theorem xV (ts:ByteArray)(y:Int)(HX:Hid (∀w',Calls Tryz.prog 34 #[.string s,.string t,.int .u64 sd] w' (bU w' ts y)))(HR:Hid (∀w',Calls Tryz.prog 35 #[.string s,.string t,.int .u64 sd] w' (bU w' ts y))):
  Calls Tryz.prog 10 #[.agg (dw 6 p n f (.slice pc L ax) s t sd (.slice b k e))] w (FT w):=by
 have B0:Below w.heap.size w (w.alloc (.cells (dw 6 p n f (.slice pc L ax) s t sd (.slice b k e)) 43)):=(Below.refl _ _).alloc (Nat.le_refl _) _;have hz0:(w.alloc (.cells (dw 6 p n f (.slice pc L ax) s t sd (.slice b k e)) 43)).heap.size=w.heap.size+1:=by simp
 have hh0:=heap_alloc_new w (.cells (dw 6 p n f (.slice pc L ax) s t sd (.slice b k e)) 43);have e0:(w.alloc (.cells (dw 6 p n f (.slice pc L ax) s t sd (.slice b k e)) 43)).cell? ⟨w.heap.size,0,none⟩=some (.int .i64 6):=cell_of_row _ _ _ _ _ _ hh0;have e5:(w.alloc (.cells (dw 6 p n f (.slice pc L ax) s t sd (.slice b k e)) 43)).cell? ⟨w.heap.size,5,none⟩=some (.string s):=cell_of_row _ _ _ _ _ _ hh0;have e6:(w.alloc (.cells (dw 6 p n f (.slice pc L ax) s t sd (.slice b k e)) 43)).cell? ⟨w.heap.size,6,none⟩=some (.string t):=cell_of_row _ _ _ _ _ _ hh0;have e7:(w.alloc (.cells (dw 6 p n f (.slice pc L ax) s t sd (.slice b k e)) 43)).cell? ⟨w.heap.size,7,none⟩=some (.int .u64 sd):=cell_of_row _ _ _ _ _ _ hh0;clear hh0;go_in;go_wp2_with(refine aF rfl 43 _ rfl (.agg (dw 6 p n f (.slice pc L ax) s t sd (.slice b k e))) rfl (dw 6 p n f (.slice pc L ax) s t sd (.slice b k e)) (gI _ _ _ _ _ _ _ _ _ _ _ _ _) ?_)
 generalize(w.alloc (.cells (dw 6 p n f (.slice pc L ax) s t sd (.slice b k e)) 43))=w0 at*
 refine(HX.out w0).mono ?_
 rintro e' w1 ⟨B1,rfl⟩;have f5:=(B1.cell (p:=⟨w.heap.size,5,none⟩) (by show w.heap.size<_;omega)).trans e5;have f6:=(B1.cell (p:=⟨w.heap.size,6,none⟩) (by show w.heap.size<_;omega)).trans e6;have f7:=(B1.cell (p:=⟨w.heap.size,7,none⟩) (by show w.heap.size<_;omega)).trans e7;have hz1:=B1.size;have HB1:=hid (B0.trans (B1.mono B0.size));clear B1 e0 e5 e6 e7;go_wp2_with fail
 refine(HR.out w1).mono ?_
 rintro e' w2 ⟨B2,rfl⟩;go_wp2_with fail
 go_ret
 exact⟨rfl,HB1.out.trans (B2.mono HB1.out.size)⟩
end
theorem Dj {w:World}{A M L T:Nat}{col:Nat→Nat}{ps:List PP}(h:WW w A M L T col ps)(hl:(L+4)*24≤140737488355328){i:Nat}{p:PP}(hp:ps[i]?=some p):
  Calls Tryz.prog 17 #[.pointer (some ⟨A,0,none⟩),.agg #[.pointer (some ⟨p.H,0,none⟩),.pointer (some ⟨p.Y,0,none⟩)],.int .i64 12] w (bC A M L T col w):=by
 have HW:Hid (WW w A M L T col ps):=h;have HP:Hid (∀W,Below w.heap.size w W→jC 0 (fun k=>col k=3+2*i) p.H p.g p.h W):=fun W b=>h.Ji hp b
 have HD:Hid (∀W,Below w.heap.size w W→∃d,DU W (fun k=>col k=4+2*i) p.Y d p.g p.h):=fun W b=>h.doc hp b
 have HK:Hid (AY w col T i p):=h.pr i p hp;have h3:=h.three;clear h
 obtain⟨H,hH⟩:∃H,p.H=H:=⟨_,rfl⟩
 obtain⟨Y,hY⟩:∃Y,p.Y=Y:=⟨_,rfl⟩
 rw[hH]at HP;rw[hY]at HD;rw[hH,hY];clear hH hY;have B0:Below w.heap.size w (w.alloc (.cells #[.pointer (some ⟨H,0,none⟩),.pointer (some ⟨Y,0,none⟩)] 51)):=(Below.refl _ _).alloc (Nat.le_refl _) _;have hh:=heap_alloc_new w (.cells #[.pointer (some ⟨H,0,none⟩),.pointer (some ⟨Y,0,none⟩)] 51);have e0:(w.alloc (.cells #[.pointer (some ⟨H,0,none⟩),.pointer (some ⟨Y,0,none⟩)] 51)).cell? ⟨w.heap.size,0,none⟩=some (.pointer (some ⟨H,0,none⟩)):=cell_of_row _ _ _ _ _ _ hh;have e1:(w.alloc (.cells #[.pointer (some ⟨H,0,none⟩),.pointer (some ⟨Y,0,none⟩)] 51)).cell? ⟨w.heap.size,1,none⟩=some (.pointer (some ⟨Y,0,none⟩)):=cell_of_row _ _ _ _ _ _ hh;clear hh;go_in;go_wp2_with(refine aF rfl 51 _ rfl (.agg #[.pointer (some ⟨H,0,none⟩),.pointer (some ⟨Y,0,none⟩)]) rfl #[.pointer (some ⟨H,0,none⟩),.pointer (some ⟨Y,0,none⟩)] (mj _ _ _) ?_)
 generalize(w.alloc (.cells #[.pointer (some ⟨H,0,none⟩),.pointer (some ⟨Y,0,none⟩)] 51))=w0 at*
 have hs0:=B0.size;have H1:Hid (Calls Tryz.prog 55 #[.pointer (some ⟨H,0,none⟩)] w0 fun e w'=>e=.returned (.slice (some ⟨w0.heap.size,0,none⟩) 64 64)∧w'.heap[w0.heap.size]?=some (.cells (gU (aS p.h.kept)).toArray 5 (0,0))∧Below w0.heap.size w0 w'):=by
  obtain⟨v,G,K⟩:=(HP.out w0 B0).kh
  exact CW w0 H v G p.h.kept K
 refine H1.out.mono ?_;rintro e2 w1 ⟨rfl,hr,B1⟩;have B01:=B0.trans (B1.mono hs0);have f1:=cS B1 e1;have HO1:Hid (w1.ownsRow 0 5 1 (.slice (some ⟨w0.heap.size,0,none⟩) 64 64) 64 (gU (aS p.h.kept))):=rQ hr (by simp[gU]) (by omega);have hs1:=B1.size;have hlt:w0.heap.size<w1.heap.size:=(Array.getElem?_eq_some_iff.1 hr).1
 obtain⟨d,D⟩:=HD.out w1 B01
 have hYl:=D.ob.lt;have HSE:Hid (∀q,q<64→w1.cell? ⟨w0.heap.size,q,none⟩=some (.int .u8 (aS p.h.kept q:Nat))∧w1.cell? ⟨Y,5+q,none⟩=some (.int .u8 (aS p.h.kept q:Nat))):=fun q hq=>⟨by
  rw[cell_of_row _ _ _ _ _ _ hr];simp[gU,List.getElem?_range hq],D.seen q hq⟩
 have HB1:Hid (Below w.heap.size w w1):=B01;clear hr B1 B01 H1 D HP HD HK e0;go_wp2_with fail
 go_loopw [7,15] (fun ok j wr=>∃q:Nat,q≤64∧ok=.bool true∧j=.int .i64 q∧Sm w1 wr) (fun _ j _=>64-(intOf j).toNat)
 case atStart=>exact ⟨0,by omega,rfl,rfl,Sm.refl _⟩
 case round=>
  obtain⟨q,hq,rfl,rfl,S3⟩:=hrel
  have HS:Hid (Sm w1 wr):=S3;by_cases hql:q<64
  ·have c1:=S3.cell (HSE.out q hql).1;have c2:=S3.cell (HSE.out q hql).2;have f2:=S3.cell f1;have hi1:(q:Int)<64:=(by omega);have hY2:Y<wr.heap.size:=by rw[S3.heap];exact hYl
   clear S3
   generalize((aS p.h.kept q:Nat):Int)=sv at*
   go_wp2_with fail
   go_quiet(fail)
   go_wp2_with fail
   go_roundw
   case rel=>exact ⟨q+1,by omega,rfl,by go_num,HS.out.drewN _⟩
   case measure=>simp [intOf];omega
  ·obtain rfl:q=64:=by omega
   have HBL:Hid (Below w.heap.size w wr):=FE HB1.out S3;have ca:=HW.out.cA HBL.out;have HLK:Hid (Calls Tryz.prog 7 #[.pointer (some ⟨M,0,none⟩)] wr fun e w'=>e=.returned (.bool true)∧Below wr.heap.size wr w'):=gV (HW.out.bk.below HBL.out) (fun _=>by show L≤_;omega);have HVB:Hid (∀g,(Value.slice (some ⟨w0.heap.size,0,none⟩) 64 64).ownBlock=some g→w.heap.size≤g∧g<wr.heap.size):=fun g e=>by
    obtain rfl:w0.heap.size=g:=by simpa[Value.ownBlock]using e
    have:wr.heap.size=w1.heap.size:=by rw[S3.heap]
    omega
   have HOW:Hid (wr.ownsRow 0 5 1 (.slice (some ⟨w0.heap.size,0,none⟩) 64 64) 64 (gU (aS p.h.kept))):=ay HO1.out (fun _ _=>by rw[S3.heap]);clear S3 HS HSE;go_wp2_with fail
   refine HLK.out.mono ?_;rintro _ w8 ⟨rfl,B8⟩;have HB8:Hid (Below w.heap.size w w8):=HBL.out.trans (B8.mono HBL.out.size);have ca8:=HW.out.cA HB8.out;have hs8:=B8.size;have OW:=kN (HW.out.bk.below HB8.out) hl (.slice (some ⟨w0.heap.size,0,none⟩) 64 64) 64 (gU (aS p.h.kept)) (ay HOW.out (fun b hb=>B8.block b (aL HOW.out hb))) (by omega) (fun g e=>HW.out.IB (HVB.out g e).1);have HOO:Hid (Calls Tryz.prog 27 #[.pointer (some ⟨M,0,none⟩),.slice (some ⟨w0.heap.size,0,none⟩) 64 64] w8 (jh 0 (fun k=>col k=1) M (fun _=>L) (.slice (some ⟨w0.heap.size,0,none⟩) 64 64) w8)):=OW;clear OW B8 HLK ca;go_wp2_with fail
   refine HOO.out.mono ?_;intro _ w9 o9;obtain rfl:=o9.1;have HF:Hid (bC A M L T col w (.returned (.bool true)) w9):=HW.out.owned HB8.out (fun g e=>⟨(HVB.out g e).1,by have:=(HVB.out g e).2;omega⟩) o9;clear o9;go_wp2_with fail
   go_ret;exact HF.out
end Go.Proofs.YtmpgjkhchfcjlaaGreatDoor
