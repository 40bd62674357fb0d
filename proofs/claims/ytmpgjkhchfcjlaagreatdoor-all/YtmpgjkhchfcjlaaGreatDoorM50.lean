import Derived.Test.YtmpgjkhchfcjlaaGreatDoorM48
import Derived.Test.YtmpgjkhchfcjlaaGreatDoorM49
import Derived.Deep.Slices
import Derived.ChangeSlices
import Derived.SizedLaws
namespace Go.Proofs.YtmpgjkhchfcjlaaGreatDoor
open Go.RowKit
set_option maxRecDepth 100000
set_option maxHeartbeats 4000000
theorem Lp {w:World}{A M L T:Nat}{col:Nat→Nat}{ps:List PP}(h:nr w A M L T col ps){pp n f:Int}{pc:Option Addr}{Lc ax:Nat}{s t:ByteArray}{sd:Int}{b:Option Addr}{k e:Nat}(O:A5 (fun k=>col k=1) w pp n f (.slice pc Lc ax) s t sd (.slice b k e))(hne:0<ps.length):
  Calls Tryz.prog 6 #[.pointer (some ⟨A,0,none⟩),.agg (dw 8 pp n f (.slice pc Lc ax) s t sd (.slice b k e))] w (bC A M L T col w):=by
 have Q:=Da w 8 pp n f (.slice pc Lc ax) s t sd (.slice b k e);have q0:=Q.c0;have q1:=Q.c1;have q2:=Q.c2;have q7:=Q.c7;have hz:=Q.size;have B0:=Q.dY;clear Q
 obtain⟨j,p,hj,hp⟩:∃(j:Nat) (p:PP),(j:Int)=De pp ps.length∧ps[j]?=some p:=by
  have:=Bc pp ps.length (by omega)
  refine⟨(De pp ps.length).toNat,_,by omega,List.getElem?_eq_getElem (by omega)⟩
 have HPK:Hid (∀W,Calls Tryz.prog 13 #[.int .i64 pp,.int .i64 (ps.length:Nat)] W fun e w'=>e=.returned (.int .i64 (j:Int))∧w'=W):=fun W=>by
  rw[hj];exact mo pp ps.length O.p0 O.p1 (by omega) (by have:=h.ps;omega) W
 obtain⟨ar,kr,a1,hrow⟩:=(h.ww.below B0).row
 obtain⟨gr,rfl,hk1,hk2,r0,r1⟩:=hrow j p hp
 have hjl:=(List.getElem?_eq_some_iff.1 hp).1;have HH:=hid h;have HO:=hid O;have HPP:=hid hp;have hlp:=h.ps;clear h O hrow hp hj;generalize hpn:ps.length=pn at*;have n0:((pn:Int)==0)=false:=by rw[beq_eq_false_iff_ne];omega
 have hij:(j:Int)<(pn:Int):=by omega
 obtain⟨H,hH⟩:∃H,p.H=H:=⟨_,rfl⟩
 obtain⟨Y,hY⟩:∃Y,p.Y=Y:=⟨_,rfl⟩
 rw[hH]at r0;rw[hY]at r1;go_in;go_wp2_with(refine aF rfl 43 _ rfl (.agg (dw 8 pp n f (.slice pc Lc ax) s t sd (.slice b k e))) rfl (dw 8 pp n f (.slice pc Lc ax) s t sd (.slice b k e)) (gI _ _ _ _ _ _ _ _ _ _ _ _ _) ?_)
 generalize(w.alloc (.cells (dw 8 pp n f (.slice pc Lc ax) s t sd (.slice b k e)) 43))=w0 at*
 go_region_held3 (fun W=>W.cell? ⟨A,1,none⟩=some (.slice (some ⟨gr,0,none⟩) pn kr)∧W.cell? ⟨w.heap.size,1,none⟩=some (.int .i64 pp)∧W.cell? ⟨gr,j*2,none⟩=some (.pointer (some ⟨H,0,none⟩))∧W.cell? ⟨gr,j*2+1,none⟩=some (.pointer (some ⟨Y,0,none⟩))) (go_keep) (first|(go_at_call 13;go_fit (HPK.out w0.drew);rintro e2 w2 ⟨rfl,hw2⟩;obtain rfl:=hw2.symm)|(go_at_call 13;go_fit (HPK.out (w0.alloc (.cells #[.pointer none,.pointer none] 51)).drew);rintro e2 w2 ⟨rfl,hw2⟩;obtain rfl:=hw2.symm))
 all_goals
  have hh:=heap_alloc_new w0 (.cells #[.pointer (some ⟨H,0,none⟩),.pointer (some ⟨Y,0,none⟩)] 51);rw[hz]at hh;have b1:Below w0.heap.size w0 (w0.alloc (.cells #[.pointer (some ⟨H,0,none⟩),.pointer (some ⟨Y,0,none⟩)] 51)).drew:=((Below.refl _ _).alloc (Nat.le_refl _) _).drew;have p0:(w0.alloc (.cells #[.pointer (some ⟨H,0,none⟩),.pointer (some ⟨Y,0,none⟩)] 51)).drew.cell? ⟨w.heap.size+1,0,none⟩=some (.pointer (some ⟨H,0,none⟩)):=cell_of_row _ _ _ _ _ _ hh;have p1:(w0.alloc (.cells #[.pointer (some ⟨H,0,none⟩),.pointer (some ⟨Y,0,none⟩)] 51)).drew.cell? ⟨w.heap.size+1,1,none⟩=some (.pointer (some ⟨Y,0,none⟩)):=cell_of_row _ _ _ _ _ _ hh;have hz1:(w0.alloc (.cells #[.pointer (some ⟨H,0,none⟩),.pointer (some ⟨Y,0,none⟩)] 51)).drew.heap.size=w.heap.size+2:=by show(w0.alloc _).heap.size=_;rw[World.size_alloc];omega
  have q0:=cS b1 q0;have q2:=cS b1 q2;have q7:=cS b1 q7;have HB:=hid (B0.trans (b1.mono B0.size));clear hh b1 B0 a1 r0 r1 q1
  generalize(w0.alloc (.cells #[.pointer (some ⟨H,0,none⟩),.pointer (some ⟨Y,0,none⟩)] 51)).drew=w1 at*
  have HW:=hid (HH.out.below HB.out);have HC:Hid (∀k,w.heap.size≤k→col k=0):=fun k hk=>Classical.byContradiction fun c=>by have:=(HH.out.ww.lt k c).1;omega
  have P:=HW.out.ww.pr j p HPP.out;have HX:Hid (Calls Tryz.prog 14 #[.pointer (some ⟨H,0,none⟩),.int .i64 n] w1 fun e w'=>e=.returned (.int .i64 (zJ p.h n))∧aA (fun k=>col k=3+2*j) H p.g (AV p.g.R p.h n) w1 w'):=by
   obtain⟨d,hd,hu⟩:=P.x
   rw[←hH,←hd];exact Iq ⟨hu,P.pg.ok,P.oh.inv,P.oh.pos,HW.out.ww.tab,HW.out.ww.pI⟩ P.oh (by have:=P.tr;have:=HH.out.t1;omega) n
  have HP:=hid P;clear P;go_wp2_with fail
  refine HX.out.mono ?_;rintro e3 w3 ⟨rfl,hx⟩;have HHX:=hid hx;have hs3:=hx.fr.size;have p1:=(World.cell?_of_block (w:=w1) (a:=⟨w.heap.size+1,1,none⟩) (hx.fr.block _ (by show w.heap.size+1<_;omega) (by show ¬col (w.heap.size+1)=_;rw[HC.out _ (by omega)];omega))).trans p1;have q2:=(World.cell?_of_block (w:=w1) (a:=⟨w.heap.size,2,none⟩) (hx.fr.block _ (by show w.heap.size<_;omega) (by show ¬col w.heap.size=_;rw[HC.out _ (Nat.le_refl _)];omega))).trans q2;have HY:Hid (Calls Tryz.prog 15 #[.pointer (some ⟨Y,0,none⟩),.int .i64 n] w3 fun e w'=>e=.returned (.int .i64 (zJ p.h n))∧bu (fun k=>col k=4+2*j) Y p.g (AV p.g.R p.h n) w3 w'):=by
   obtain⟨d,du⟩:=HP.out.y
   rw[←hY];have lt:=HW.out.ww.lt;exact Io (du.keep (V:=fun k=>col k=4+2*j) hs3 (fun k hk=>hx.fr.block k (du.dk.lt k hk) (by show ¬col k=_;omega)) (fun _ c=>c) (fun k hk=>Nat.lt_of_lt_of_le (lt k (by omega)).1 hs3) (fun k hk=>(lt k (by omega)).2)) HP.out.pg HP.out.oh (by have:=HP.out.tr;have:=HH.out.t1;omega) n
  clear hx HX;go_wp2_with fail
  refine HY.out.mono ?_;rintro e4 w4 ⟨rfl,hy⟩;have HF:Hid (bC A M L T col w (.returned (.bool true)) w4):=by
   refine(HW.out.ww.gone HPP.out (by rw[hH];exact HHX.out) (by rw[hY];exact hy) ?_ ?_).lift HB.out
   ·unfold AV;split
    ·rename_i c
     refine HP.out.oh.go p.g.mC ?_ _;unfold zJ at c;split at c
     ·cases c
     ·split at c
      ·cases c
      ·omega
    ·exact HP.out.oh
   ·have:=HP.out.tr
    unfold AV;split
    ·rename_i c
     rw[nY];unfold zJ at c;split at c
     ·cases c
     ·omega
    ·omega
  clear hy HY HHX HP;generalize zJ p.h n=ge at*;go_wp2_with(go_at_call 16;refine(ju _ _).mono ?_;rintro e' w' ⟨rfl,hw'⟩;obtain rfl:=hw'.symm)
  go_ret;exact HF.out
theorem FY {w:World}{A M L T:Nat}{col:Nat→Nat}{ps:List PP}(h:WW w A M L T col ps)(hl:(L+4)*24≤140737488355328){i:Nat}{p:PP}(hp:ps[i]?=some p)(kd:Int)(h9:9≤kd)(h14:kd≤14):
  Calls Tryz.prog 17 #[.pointer (some ⟨A,0,none⟩),.agg #[.pointer (some ⟨p.H,0,none⟩),.pointer (some ⟨p.Y,0,none⟩)],.int .i64 kd] w (bC A M L T col w):=by
 have c:kd=9∨kd=10∨kd=11∨kd=12∨kd=13∨kd=14:=by omega
 rcases c with rfl|rfl|rfl|rfl|rfl|rfl
 ·exact xX h hp
 ·exact Di h hl hp
 ·exact ve h hl hp
 ·exact Dj h hl hp
 ·exact FV h hl hp
 ·exact FW h hp
theorem Lq {w:World}{A M L T:Nat}{col:Nat→Nat}{ps:List PP}(h:nr w A M L T col ps){pp n f:Int}{pc:Option Addr}{Lc ax:Nat}{s t:ByteArray}{sd:Int}{b:Option Addr}{k e:Nat}(O:A5 (fun k=>col k=1) w pp n f (.slice pc Lc ax) s t sd (.slice b k e))(hne:0<ps.length)(kd:Int)(h9:9≤kd)(h14:kd≤14):
  Calls Tryz.prog 6 #[.pointer (some ⟨A,0,none⟩),.agg (dw kd pp n f (.slice pc Lc ax) s t sd (.slice b k e))] w (bC A M L T col w):=by
 have k1:(1:Int)≤kd:=by omega
 have k4:¬kd≤4:=by omega
 have k8:¬kd<8:=by omega
 have k16:¬(16:Int)<kd:=by omega
 have kn:∀q:Int,(q<9∨14<q)→(kd==q)=false:=fun q hq=>by rw[beq_eq_false_iff_ne];omega
 have k5:=kn 5 (by omega);have k6:=kn 6 (by omega);have k7:=kn 7 (by omega);have k15:=kn 15 (by omega);have k88:=kn 8 (by omega);have k66:=kn 16 (by omega);clear kn;have Q:=Da w kd pp n f (.slice pc Lc ax) s t sd (.slice b k e);have q0:=Q.c0;have q1:=Q.c1;have q2:=Q.c2;have q7:=Q.c7;have hz:=Q.size;have B0:=Q.dY;clear Q
 obtain⟨j,p,hj,hp⟩:∃(j:Nat) (p:PP),(j:Int)=De pp ps.length∧ps[j]?=some p:=by
  have:=Bc pp ps.length (by omega)
  refine⟨(De pp ps.length).toNat,_,by omega,List.getElem?_eq_getElem (by omega)⟩
 have HPK:Hid (∀W,Calls Tryz.prog 13 #[.int .i64 pp,.int .i64 (ps.length:Nat)] W fun e w'=>e=.returned (.int .i64 (j:Int))∧w'=W):=fun W=>by
  rw[hj];exact mo pp ps.length O.p0 O.p1 (by omega) (by have:=h.ps;omega) W
 obtain⟨ar,kr,a1,hrow⟩:=(h.ww.below B0).row
 obtain⟨gr,rfl,hk1,hk2,r0,r1⟩:=hrow j p hp
 have hjl:=(List.getElem?_eq_some_iff.1 hp).1;have HH:Hid (nr w A M L T col ps):=h;have HO:Hid (A5 (fun k=>col k=1) w pp n f (.slice pc Lc ax) s t sd (.slice b k e)):=O;have HPP:Hid (ps[j]?=some p):=hp;have hlp:=h.ps;clear h O hrow hp hj;generalize hpn:ps.length=pn at*;have n0:((pn:Int)==0)=false:=by rw[beq_eq_false_iff_ne];omega
 have hij:(j:Int)<(pn:Int):=by omega
 obtain⟨H,hH⟩:∃H,p.H=H:=⟨_,rfl⟩
 obtain⟨Y,hY⟩:∃Y,p.Y=Y:=⟨_,rfl⟩
 rw[hH]at r0;rw[hY]at r1;go_in;go_wp2_with(refine aF rfl 43 _ rfl (.agg (dw kd pp n f (.slice pc Lc ax) s t sd (.slice b k e))) rfl (dw kd pp n f (.slice pc Lc ax) s t sd (.slice b k e)) (gI _ _ _ _ _ _ _ _ _ _ _ _ _) ?_)
 generalize(w.alloc (.cells (dw kd pp n f (.slice pc Lc ax) s t sd (.slice b k e)) 43))=w0 at*
 go_region_held3 (fun W=>W.cell? ⟨A,1,none⟩=some (.slice (some ⟨gr,0,none⟩) pn kr)∧W.cell? ⟨w.heap.size,1,none⟩=some (.int .i64 pp)∧W.cell? ⟨gr,j*2,none⟩=some (.pointer (some ⟨H,0,none⟩))∧W.cell? ⟨gr,j*2+1,none⟩=some (.pointer (some ⟨Y,0,none⟩))) (go_keep) (first|(go_at_call 13;go_fit (HPK.out w0.drew);rintro e2 w2 ⟨rfl,hw2⟩;obtain rfl:=hw2.symm)|(go_at_call 13;go_fit (HPK.out (w0.alloc (.cells #[.pointer none,.pointer none] 51)).drew);rintro e2 w2 ⟨rfl,hw2⟩;obtain rfl:=hw2.symm))
 all_goals
  have hh:=heap_alloc_new w0 (.cells #[.pointer (some ⟨H,0,none⟩),.pointer (some ⟨Y,0,none⟩)] 51);rw[hz]at hh;have b1:Below w0.heap.size w0 (w0.alloc (.cells #[.pointer (some ⟨H,0,none⟩),.pointer (some ⟨Y,0,none⟩)] 51)).drew:=((Below.refl _ _).alloc (Nat.le_refl _) _).drew;have p0:(w0.alloc (.cells #[.pointer (some ⟨H,0,none⟩),.pointer (some ⟨Y,0,none⟩)] 51)).drew.cell? ⟨w.heap.size+1,0,none⟩=some (.pointer (some ⟨H,0,none⟩)):=cell_of_row _ _ _ _ _ _ hh;have p1:(w0.alloc (.cells #[.pointer (some ⟨H,0,none⟩),.pointer (some ⟨Y,0,none⟩)] 51)).drew.cell? ⟨w.heap.size+1,1,none⟩=some (.pointer (some ⟨Y,0,none⟩)):=cell_of_row _ _ _ _ _ _ hh;have hz1:(w0.alloc (.cells #[.pointer (some ⟨H,0,none⟩),.pointer (some ⟨Y,0,none⟩)] 51)).drew.heap.size=w.heap.size+2:=by show(w0.alloc _).heap.size=_;rw[World.size_alloc];omega
  have q0:=cS b1 q0;have q2:=cS b1 q2;have q7:=cS b1 q7;have HB:Hid (Below w.heap.size w (w0.alloc (.cells #[.pointer (some ⟨H,0,none⟩),.pointer (some ⟨Y,0,none⟩)] 51)).drew):=B0.trans (b1.mono B0.size);clear hh b1 B0 a1 r0 r1 q1
  generalize(w0.alloc (.cells #[.pointer (some ⟨H,0,none⟩),.pointer (some ⟨Y,0,none⟩)] 51)).drew=w1 at*
  have HW:Hid (nr w1 A M L T col ps):=HH.out.below HB.out;have HC:Hid (Calls Tryz.prog 17 #[.pointer (some ⟨A,0,none⟩),.agg #[.pointer (some ⟨H,0,none⟩),.pointer (some ⟨Y,0,none⟩)],.int .i64 kd] w1 (bC A M L T col w)):=by
   rw[←hH,←hY]
   exact(FY HW.out.ww HW.out.l HPP.out kd h9 h14).mono fun e' w' hs=>hs.lift HB.out
  clear q2 q7;go_wp2_with fail
  refine HC.out.mono ?_;intro e' w' hS;obtain rfl:=hS.1;have HS:Hid (bC A M L T col w (.returned (.bool true)) w'):=hS;clear hS HC;go_wp2_with fail
  go_ret;exact HS.out
theorem xW (W0:Nat){w:World}{B:Nat→Prop}{M:Nat}{L0:Nat→Nat}(hb:Bk w B M L0)(hl:∀r,(L0 r+4)*24≤140737488355328)(hw:w.cell? ⟨W0,0,none⟩=some (.pointer (some ⟨M,0,none⟩)))(hWB:¬B W0)(hT:bK w)(p n f:Int){cv:Value}{L:Nat}{c:Nat→Int}(C:iD B w cv L c)(s t:ByteArray)(sd:Int)(b:Option Addr)(k e:Nat)(kd:Int)(h1:1≤kd)(h4:kd≤4):
  Calls Tryz.prog 9 #[.pointer (some ⟨W0,0,none⟩),.agg (dw kd p n f cv s t sd (.slice b k e))] w (jJ B M L0 w):=by
 have c:kd=1∨kd=3∨kd=2∨kd=4:=by omega
 rcases c with rfl|rfl|c
 ·exact xP W0 hb hl hw hT p n f C s t sd b k e
 ·exact xU W0 hb hl hw hWB hT p n f C s t sd b k e
 ·exact uZ W0 hb hl hw hWB hT p n f C s t sd b k e kd c
theorem Lj {w:World}{A M L T:Nat}{col:Nat→Nat}{ps:List PP}(h:nr w A M L T col ps){pp n f:Int}{pc:Option Addr}{Lc ax:Nat}{s t:ByteArray}{sd:Int}{b:Option Addr}{k e:Nat}(O:A5 (fun k=>col k=1) w pp n f (.slice pc Lc ax) s t sd (.slice b k e))(kd:Int)(h1:1≤kd)(h4:kd≤4):
  Calls Tryz.prog 6 #[.pointer (some ⟨A,0,none⟩),.agg (dw kd pp n f (.slice pc Lc ax) s t sd (.slice b k e))] w (bC A M L T col w):=by
 have Q:=Da w kd pp n f (.slice pc Lc ax) s t sd (.slice b k e);have q0:=Q.c0;have q1:=Q.c1;have q2:=Q.c2;have q3:=Q.c3;have q4:=Q.c4;have q5:=Q.c5;have q6:=Q.c6;have q7:=Q.c7;have q8:=Q.c8;have B0:=Q.dY;clear Q;go_in;go_wp2_with(refine aF rfl 43 _ rfl (.agg (dw kd pp n f (.slice pc Lc ax) s t sd (.slice b k e))) rfl (dw kd pp n f (.slice pc Lc ax) s t sd (.slice b k e)) (gI _ _ _ _ _ _ _ _ _ _ _ _ _) ?_)
 generalize(w.alloc (.cells (dw kd pp n f (.slice pc Lc ax) s t sd (.slice b k e)) 43))=w0 at*
 have HC:Hid (Calls Tryz.prog 9 #[.pointer (some ⟨A,0,none⟩),.agg (dw kd pp n f (.slice pc Lc ax) s t sd (.slice b k e))] w0 (bC A M L T col w)):=by
  have h0:=h.below B0
  obtain⟨Lx,c,C⟩:=O.code
  obtain rfl:Lx=Lc:=by
   obtain⟨p',c',q⟩:=C.cR.form
   simp only[Value.slice.injEq]at q;exact q.2.1.symm
  have C0:=C.below B0
  exact(xW A h0.ww.bk (fun _=>h.l) (h0.ww.cA (Below.refl _ _)) (fun c=>by have:=h0.ww.ob;obtain⟨F,_,_,q⟩:=this;have:=q A (Or.inl rfl);omega) h0.ww.tab pp n f C0 s t sd b k e kd h1 h4).mono fun e' w' hs=>(h0.ww.uQ hs).lift B0
 clear h O;refine HC.out.mono ?_;intro e' w' hS;obtain rfl:=hS.1;have HS:Hid (bC A M L T col w (.returned (.bool true)) w'):=hS;clear hS HC;go_wp2_with fail
 go_ret;exact HS.out
section
open Go.ChangeShapes Go.WideShapes Go.ChangeAt Go.RowKit Go.Deep
theorem Tryz.IJ:Tryz.prog.cellsOf 43=9:=by kernel_rfl
theorem Tryz.A8:Tryz.prog.cellsOf 39=1:=by kernel_rfl
theorem Tryz.rS:Tryz.prog.cellsOf 9=1:=by kernel_rfl
theorem Tryz.FQ:Tryz.prog.cellsOf 40=1:=by kernel_rfl
theorem Tryz.Df:Tryz.prog.cellsOf 41=1:=by kernel_rfl
theorem Tryz.IK:Tryz.prog.cellsOf 5=1:=by kernel_rfl
theorem Tryz.IL:Tryz.prog.bytesOf 43=120:=by kernel_rfl
theorem Tryz.FR:Tryz.prog.bytesOf 9=16:=by kernel_rfl
theorem Tryz.IM:Tryz.prog.bytesOf 5=1:=by kernel_rfl
theorem xS {W:World}{a:Addr}{len cap:Nat}{zs:List Int}(hl:len≤cap)(hm:cap≤maxLen)(hz:zs.length=cap)
  (hcell:∀i,i<zs.length→W.cell? (a.add i)=some (.int .u8 (zs.getD i 0)))(hwz:∀n∈zs,(Lit.int .u8 n).wf=true):
  b9 W (.slice (some a) len cap) len (fun i=>zs.getD i 0)∧∀i,i<len→0≤zs.getD i 0∧zs.getD i 0≤255:=by
 constructor
 ·by_cases h0:len=0
  ·subst h0;exact .bare (some a) cap rfl rfl
  ·obtain⟨b,off,spot⟩:=a
   have hspot:spot=none:=(by simpa[Addr.add]using World.cell?_spot (hcell 0 (by omega)));subst hspot;exact .full b off cap rfl ⟨fun i hi=>by rw[←add_plain];exact hcell i (by omega),hl,hm,by omega⟩
 ·intro i hi
  have:=range_u8 hwz i
  rw[List.getD_eq_getElem?_getD];exact this
theorem pS {H:Type}{P:Program}{e:TypeId}:∀{l:List (DataW H)} {d:DataW H},d∈l→∀n∈d.weights P e,n∈DataW.weightsAll P e l
 |d0::l,d,hd,n,hn=>by
  simp only[DataW.weightsAll,List.mem_append];rcases List.mem_cons.1 hd with h|h
  ·subst h;exact Or.inl hn
  ·exact Or.inr (pS h n hn)
theorem Dg {H:Type}{enc:TypeId×Value→H}{W:World}{n0:Nat}{v:Value}{x:DataW H×List MemPlace}(h:DataW.trod enc Tryz.prog W 0 (fun _=>true) true n0 41 [v]=some x)(hw:∀k∈x.1.weights Tryz.prog 41,k≤reachBytes):
  ∃b k e l,v=.slice b k e∧pR (fun g=>W.heap.size≤g) W (.slice b k e) l:=by
 rcases open_slice1 Tryz.underlying41 Tryz.rS h with⟨c8,_⟩|⟨a,len,cap,m,n,V,D,Pl,c8,_,hl,hm,hmm,hy,hx⟩
 ·simp only[List.cons.injEq,and_true]at c8
  exact⟨none,0,0,[],c8,⟨none,0,rfl,Nat.le_refl _,by decide,fun j hj=>by simp at hj⟩,fun s hs=>by simp at hs,by decide,fun h=>by simp at h⟩
 ·simp only[if_true]at hmm;subst hmm;simp only[List.cons.injEq,and_true]at c8;have hV:∀i,i<m→∃t:ByteArray,V i=.string t∧t.size≤maxLen:=fun i hi=>by
   obtain⟨t,h1,_,h3⟩:=DataW.trod_string Tryz.underlying9 (hx i hi).2
   simp only[List.cons.injEq,and_true]at h1
   exact⟨t,h1,h3⟩
  have hcap:=hw _ (by
   rw[hy];simp only[DataW.weights,Tryz.underlying41,Tryz.FR];exact List.mem_cons_self)
  simp only[List.length_map,List.length_range,reachBytes]at hcap
  obtain⟨Tx,hTx⟩:∃Tx:Nat→ByteArray,∀i,i<m→V i=.string (Tx i)∧(Tx i).size≤maxLen:=by
   classical
   exact⟨fun i=>if hi:i<m then(hV i hi).choose else⟨#[]⟩,fun i hi=>by simp only[dif_pos hi];exact(hV i hi).choose_spec⟩
  have hlen:((List.range len).map Tx).length=len:=by simp
  refine⟨some a,len,m,(List.range len).map Tx,c8,⟨some a,m,by rw[hlen],by rw[hlen];exact hl,by simp only[maxLen]at hm;omega,fun j hj=> ?_⟩,fun s hs=> ?_,by rw[hlen];omega,fun h0 g hg=> ?_⟩
  ·rw[hlen]at hj
   obtain⟨b,off,spot⟩:=a
   have hspot:spot=none:=(by simpa[Addr.add]using World.cell?_spot (hx 0 (by omega)).1);subst hspot;have hc:∀i,i<len→W.cell? ⟨b,off+i,none⟩=some (.string (Tx i)):=fun i hi=>by
    have:=(hx i (by omega)).1
    rw[add_plain,(hTx i (by omega)).1]at this;exact this
   refine⟨b,off,rfl,block_lt_of_cell (hc 0 (by omega)),fun i hi=> ?_⟩
   rw[hlen]at hi;rw[hc i hi,List.getD_eq_getElem?_getD,List.getElem?_map,List.getElem?_range hi];rfl
  ·obtain⟨i,hi,rfl⟩:=List.mem_map.1 hs
   have:=(hTx i (by have:=List.mem_range.1 hi;omega)).2
   simpa[maxLen]using this
  ·rw[hlen]at h0
   have:=block_lt_of_cell (hx 0 (by omega)).1
   have e:a.block=g:=(by simpa[Value.ownBlock]using hg);have h2:(a.add 0).block=a.block:=(by simp[Addr.add]);rw[h2,e]at this
   exact⟨by show ¬W.heap.size≤g;omega,this⟩
theorem IP {H:Type}{enc:TypeId×Value→H}{W:World}{n0:Nat}{cs:List Value}{x:DataW H×List MemPlace}(h:DataW.trod enc Tryz.prog W 0 (fun _=>true) true n0 43 cs=some x)
  (hw:∀k∈x.1.weights Tryz.prog 43,k≤reachBytes):tL W.heap.size W (fun j=>cs[j]?):=by
 obtain⟨xs,m,_,rfl,hl,hlen,hf⟩:=DataW.trod_struct Tryz.underlying43 h
 match xs,hlen with
 |[y0,y1,y2,y3,y4,y5,y6,y7,y8],_=>
  have e0:DataW.trod enc Tryz.prog W 0 (fun _=>true) true m 3 ((cs.drop 0).take (Tryz.prog.cellsOf 3))=some y0:=hf 0 _ rfl;rw[Tryz.lK]at e0;have e1:DataW.trod enc Tryz.prog W 0 (fun _=>true) true m 3 ((cs.drop 1).take (Tryz.prog.cellsOf 3))=some y1:=hf 1 _ rfl;rw[Tryz.lK]at e1;have e2:DataW.trod enc Tryz.prog W 0 (fun _=>true) true m 3 ((cs.drop 2).take (Tryz.prog.cellsOf 3))=some y2:=hf 2 _ rfl;rw[Tryz.lK]at e2;have e3:DataW.trod enc Tryz.prog W 0 (fun _=>true) true m 3 ((cs.drop 3).take (Tryz.prog.cellsOf 3))=some y3:=hf 3 _ rfl;rw[Tryz.lK]at e3;have e4:DataW.trod enc Tryz.prog W 0 (fun _=>true) true m 39 ((cs.drop 4).take (Tryz.prog.cellsOf 39))=some y4:=hf 4 _ rfl;rw[Tryz.A8]at e4;have e5:DataW.trod enc Tryz.prog W 0 (fun _=>true) true m 9 ((cs.drop 5).take (Tryz.prog.cellsOf 9))=some y5:=hf 5 _ rfl;rw[Tryz.rS]at e5;have e6:DataW.trod enc Tryz.prog W 0 (fun _=>true) true m 9 ((cs.drop 6).take (Tryz.prog.cellsOf 9))=some y6:=hf 6 _ rfl;rw[Tryz.rS]at e6;have e7:DataW.trod enc Tryz.prog W 0 (fun _=>true) true m 40 ((cs.drop 7).take (Tryz.prog.cellsOf 40))=some y7:=hf 7 _ rfl;rw[Tryz.FQ]at e7;have e8:DataW.trod enc Tryz.prog W 0 (fun _=>true) true m 41 ((cs.drop 8).take (Tryz.prog.cellsOf 41))=some y8:=hf 8 _ rfl;rw[Tryz.Df]at e8
  obtain⟨k0,c0,_,_⟩:=DataW.trod_int Tryz.underlying3 e0
  obtain⟨k1,c1,_,wf1⟩:=DataW.trod_int Tryz.underlying3 e1
  obtain⟨k2,c2,_,wf2⟩:=DataW.trod_int Tryz.underlying3 e2
  obtain⟨k3,c3,_,_⟩:=DataW.trod_int Tryz.underlying3 e3
  obtain⟨s5,c5,d5,wf5⟩:=DataW.trod_string Tryz.underlying9 e5
  obtain⟨s6,c6,_,wf6⟩:=DataW.trod_string Tryz.underlying9 e6
  obtain⟨k7,c7,_,wf7⟩:=DataW.trod_int Tryz.underlying40 e7
  have hwe:∀(j:Nat) (y:DataW H) (ty:TypeId),[y0.1,y1.1,y2.1,y3.1,y4.1,y5.1,y6.1,y7.1,y8.1][j]?=some y→[3,3,3,3,39,9,9,40,41][j]?=some ty→∀k∈y.weights Tryz.prog ty,k≤reachBytes:=fun j y ty hy hty k hk=>hw k (by
   simp only[DataW.weights,Tryz.underlying43];exact DataW.weights_mem_each (j:=j) (t:=ty) (d:=y) hty hy k hk)
  have h5s:s5.size≤140737488355328:=by
   have:=hwe 5 y5.1 9 rfl rfl s5.data.toList.length (by rw[d5];simp[DataW.weights])
   simp only[reachBytes,Array.length_toList]at this;show s5.data.size≤_;omega
  obtain⟨v8,c8⟩:∃v8,(cs.drop 8).take 1=[v8]:=by
   rcases DataW.trod_slice Tryz.underlying41 e8 with⟨c8,_⟩|⟨a,len,cap,_,_,_,_,c8,_⟩
   ·exact⟨_,c8⟩
   ·exact⟨_,c8⟩
  rw[c8]at e8
  obtain⟨b,k,e,l,rfl,X⟩:=Dg e8 (hwe 8 y8.1 41 rfl rfl)
  have hcode:∃pc Lc ax c,cs[4]?=some (.slice pc Lc ax)∧iD (fun g=>W.heap.size≤g) W (.slice pc Lc ax) Lc c:=by
   have low:∀{cv:Value} {L:Nat} {c:Nat→Int},b9 W cv L c→0<L→∀g,cv.ownBlock=some g→¬W.heap.size≤g∧g<W.heap.size:=fun C h0 g hg=>by
    have:¬W.heap.size≤g:=fun q=>C.blk h0 q hg
    omega
   rcases open_ints Tryz.underlying39 Tryz.underlying5 Tryz.IK e4 with⟨c4,_⟩|⟨a,len,cap,zs,c4,_,hl,hm,hz,hy,hcell,hwz⟩
   ·exact⟨none,0,0,fun _=>0,gG c4,.bare none 0 rfl rfl,fun i hi=>by omega,by omega,fun h=>by omega⟩
   ·simp only[if_true]at hz
    obtain⟨C,hby⟩:=xS hl hm hz hcell hwz
    refine⟨_,len,cap,_,gG c4,C,hby,?_,low C⟩
    have:=hwe 4 y4.1 39 rfl rfl ((lits .u8 (zs.take len)).length+(lits .u8 (zs.drop len)).length) (by
     rw[hy];simp only[DataW.weights,Tryz.underlying39,Tryz.IM,Nat.mul_one];exact List.mem_cons_self)
    simp only[lits,List.length_map,List.length_take,List.length_drop,reachBytes]at this;omega
  obtain⟨pc,Lc,ax,c,c4,C⟩:=hcode
  simp[Lit.wf,IntKind.min,IntKind.max,IntKind.signed,IntKind.bits]at wf1 wf2 wf7;unfold maxLen at wf5 wf6
  refine⟨k0,k1,k2,k3,pc,Lc,ax,s5,s6,k7,b,k,e,fun j hj=> ?_,⟨Lc,c,C⟩,⟨l,X⟩,by omega,by omega,by omega,by omega,by omega,by omega,h5s,by omega⟩
  match j,hj with
  |0,_=>exact gG c0
  |1,_=>exact gG c1
  |2,_=>exact gG c2
  |3,_=>exact gG c3
  |4,_=>exact c4
  |5,_=>exact gG c5
  |6,_=>exact gG c6
  |7,_=>exact gG c7
  |8,_=>exact gG c8
  |j+9,hj=>omega
theorem xT {H:Type}{enc:TypeId×Value→H}{W:World}{a0:Option Addr}{len cap fuel:Nat}{x:DataW H×List MemPlace}(h:DataW.trod enc Tryz.prog W 0 (fun _=>true) true fuel 22 [.slice a0 len cap]=some x)
  (hw:∀k∈x.1.weights Tryz.prog 22,k≤reachBytes):
  ∃news:List Value,news.length=len*9∧(∀ad,a0=some ad→∀j u,news[j]?=some u→W.cell? (ad.add j)=some u)∧(a0=none→len=0)∧(9+len)*120≤140737488355328∧oc W len news:=by
 rcases open_slice Tryz.underlying22 h with⟨hcs,_⟩|⟨a,len',cap',m,n,D,Pl,hcs,_,hl,hm,hmm,rfl,hx⟩
 ·simp at hcs
  obtain⟨rfl,rfl,rfl⟩:=hcs
  exact⟨[],rfl,fun ad h=>(by cases h),fun _=>rfl,by omega,fun i hi=>by omega⟩
 ·simp at hcs
  obtain⟨rfl,rfl,rfl⟩:=hcs
  simp only[if_true]at hmm;subst hmm;rw[Tryz.IJ]at hx;simp only[DataW.weights,Tryz.underlying22,Tryz.IL]at hw;have hcnt:=hw _ List.mem_cons_self;simp only[List.length_map,List.length_range,reachBytes]at hcnt;have hel:∀i,i<len→∃cs':List Value,(∀j,j<9→W.cell? (a.add (i*9+j))=cs'[j]?)∧tL W.heap.size W (fun j=>cs'[j]?):=by
   intro i hi
   obtain⟨cs',h1,h2⟩:=hx i (by omega)
   obtain⟨_,_,h3⟩:=World.cells?_some h1
   refine⟨cs',fun j hj=>by rw[←add_add];exact h3 j hj,IP h2 fun k hk=>hw k (List.mem_cons_of_mem _ (List.mem_append_left _ (pS (List.mem_map.2 ⟨i,List.mem_range.2 hi,rfl⟩) k hk)))⟩
  have hsome:∀t,t<len*9→∃u,W.cell? (a.add t)=some u:=by
   intro t ht
   obtain⟨cs',h1,_,_,_,_,_,_,_,_,_,_,_,_,_,h2,_⟩:=hel (t/9) (by omega)
   dsimp only at h2;have h3:=h1 (t%9) (by omega);rw[h2 (t%9) (by omega),show t/9*9+t%9=t by omega]at h3
   exact⟨_,h3.trans (Array.getElem?_eq_getElem (show t%9<9 by omega))⟩
  have hget:∀t,t<len*9→((List.range (len*9)).map fun t=>(W.cell? (a.add t)).getD undef)[t]?=W.cell? (a.add t):=by
   intro t ht
   obtain⟨u,hu⟩:=hsome t ht
   rw[List.getElem?_map,List.getElem?_range ht,Option.map_some,hu];rfl
  refine⟨(List.range (len*9)).map fun t=>(W.cell? (a.add t)).getD undef,by simp,?_,fun h=>(by cases h),by omega,?_⟩
  ·intro ad had j u hj;obtain rfl:=Option.some.inj had
   obtain⟨hlt,_⟩:=List.getElem?_eq_some_iff.1 hj
   rw[←hget j (by simpa using hlt)];exact hj
  ·intro i hi
   obtain⟨cs',h1,kd,p,n,f,pc,Lc,ax,s,t,sd,b,k,e,h2,h3⟩:=hel i hi
   refine⟨kd,p,n,f,pc,Lc,ax,s,t,sd,b,k,e,fun j hj=> ?_,h3⟩
   dsimp only;rw[hget _ (by omega),show 9*i+j=i*9+j by omega]
   exact(h1 j hj).trans (h2 j hj)
end
theorem FZ {w:World}{A M L T:Nat}{col:Nat→Nat}{ps:List PP}(h:nr w A M L T col ps){pp n f:Int}{pc:Option Addr}{Lc ax:Nat}{s t:ByteArray}{sd:Int}{b:Option Addr}{k e:Nat}(O:A5 (fun k=>col k=1) w pp n f (.slice pc Lc ax) s t sd (.slice b k e))(kd:Int):
  Calls Tryz.prog 6 #[.pointer (some ⟨A,0,none⟩),.agg (dw kd pp n f (.slice pc Lc ax) s t sd (.slice b k e))] w (bC A M L T col w):=by
 by_cases h0:kd<1∨16<kd∨(8≤kd∧kd≠15∧kd≤16∧ps.length=0)
 ·exact Lo h kd h0
 ·have c:(1≤kd∧kd≤4)∨kd=5∨kd=6∨kd=7∨kd=15∨(0<ps.length∧(kd=8∨kd=16∨(9≤kd∧kd≤14))):=by omega
  rcases c with c|rfl|rfl|rfl|rfl|⟨hn,rfl|rfl|c⟩
  ·exact Lj h O kd c.1 c.2
  ·exact Ll h O
  ·exact Lm h O
  ·exact Ln h O
  ·exact Kn h O
  ·exact Lp h O hn
  ·exact Ko h O hn
  ·exact Lq h O hn kd c.1 c.2
structure tM (M:Nat) (w3:World) (k:Nat) (wr:World):Prop where
 ww:∃col ps,WW wr (M+1) M (4*k) (200000+2000*k) col ps∧∀x,x<M→col x=0
 fr:Fr (fun x=>M≤x) w3 wr
theorem tM.sm {M:Nat}{w3:World}{k:Nat}{wr w':World}(h:tM M w3 k wr)(b:Below wr.heap.size wr w'):tM M w3 k w':=by
 obtain⟨col,ps,hw,hc⟩:=h.ww
 exact⟨⟨col,ps,hw.below b,hc⟩,h.fr.same (Fr.below b)⟩
theorem tM.more {M:Nat}{w3:World}{k:Nat}{wr:World}(h:tM M w3 k wr):tM M w3 (k+1) wr:=by
 obtain⟨col,ps,hw,hc⟩:=h.ww
 exact⟨⟨col,ps,hw.more (by omega) (by omega),hc⟩,h.fr⟩
theorem tM.step {M:Nat}{w3:World}{k:Nat}{wr:World}(h:tM M w3 k wr)(hk:(4*k+4)*24≤140737488355328)(hl:M≤w3.heap.size){kd pp n f:Int}{pc:Option Addr}{Lc ax:Nat}{s t:ByteArray}{sd:Int}{b:Option Addr}{q e:Nat}(O:A5 (fun g=>M≤g) w3 pp n f (.slice pc Lc ax) s t sd (.slice b q e)):
  Calls Tryz.prog 6 #[.pointer (some ⟨M+1,0,none⟩),.agg (dw kd pp n f (.slice pc Lc ax) s t sd (.slice b q e))] wr fun e w'=>e=.returned (.bool true)∧tM M w3 (k+1) w':=by
 obtain⟨col,ps,hw,hc⟩:=h.ww
 have hn:=hw.len
 refine(FZ ⟨hw,hk,by omega,by omega,by omega⟩ (O.keep h.fr.size (fun x hx hn=>⟨h.fr.block x hx hn,by rw[hc x (by omega)];decide⟩)) kd).mono ?_
 rintro e' w' ⟨rfl,f',dm,ps',hw',ho⟩;have hs:=h.fr.size
 refine⟨rfl,⟨dm,ps',hw'.more (by omega) (by omega),fun x hx=>by rw[ho x (by omega)];exact hc x hx⟩,h.fr.same (f'.wide (fun x hx=>Classical.byContradiction fun c=>hx (hc x (by omega))))⟩
theorem tM.looks {M:Nat}{w3:World}{k:Nat}{wr:World}(h:tM M w3 k wr)(hk:4*k≤1000000000000000):Calls Tryz.prog 7 #[.pointer (some ⟨M,0,none⟩)] wr fun e w'=>e=.returned (.bool true)∧tM M w3 k w':=by
 obtain⟨col,ps,hw,hc⟩:=h.ww
 exact(gV hw.bk (fun _=>hk)).mono fun e w' ⟨h1,h2⟩=>⟨h1,h.sm h2⟩
theorem A9 (w:World)(a:Option Addr)(m c:Nat)(news:List Value)(hl:news.length=m*9)
  (hnews:∀ad,a=some ad→∀j u,news[j]?=some u→w.cell? (ad.add j)=some u)(hn:a=none→m=0)(hb:(9+m)*120≤140737488355328)(hT:bK w)(hMk:kT w)(hS:oc w m news):
  Calls Tryz.prog 4 #[.slice a m c,.int .i64 16] w fun e w'=>e=.returned (.bool true)∧Below w.heap.size w w':=by
 obtain⟨w1,hw1⟩:∃w1,uf w=w1:=⟨_,rfl⟩
 have F1:=hw1▸FO w;have HF:=hid F1;have hz1:=F1.size;have hr1:=hid F1.row;have hnews1:Hid (∀ad,a=some ad→∀j u,news[j]?=some u→w1.cell? (ad.add j)=some u):=fun ad h j u hj=>cS F1.below (hnews ad h j u hj)
 have HFI:Hid (Calls Tryz.prog 5 #[] w fun e w'=>e=.returned (.slice (some ⟨w.heap.size+5,0,none⟩) 9 9)∧w'=w1):=by
  rw[←hw1];exact BQ w
 have HS:Hid (oc w m news∧bK w∧kT w):=⟨hS,hT,hMk⟩;have HL:=hid hl;have HN:=hid hn;clear hw1 F1 hnews hS hT hMk hl hn;go_in;go_wp2_with fail
 refine HFI.out.mono ?_;rintro _ w2 ⟨rfl,hw2⟩;obtain rfl:=hw2.symm;go_wp2_with(at_builtin;refine mE rfl (.tmp 10) (.tmp 11) rfl (w.heap.size+5) (mV w.heap.size) hr1.out rfl a m c news HL.out hnews1.out HN.out hb rfl rfl ?_)
 intro G c' w2 A2;have HA:=hid A2;have hz2:=A2.below.size;have hG:=A2.lt;have hc1:=A2.room;have hc2:=A2.room';clear A2 hr1 hnews1 HFI;go_wp2_with fail
 have hBK:Below w2.heap.size w2 ((w2.alloc (.cells #[.slice none 0 0,.slice none 0 0,.slice none 0 0,.slice none 0 0,.slice none 0 0,.slice none 0 0,.slice none 0 0,.slice none 0 0,.slice none 0 0,.slice none 0 0] 35)).alloc (.cells #[.pointer (some ⟨w2.heap.size,0,none⟩),.slice none 0 0] 38)):=((Below.refl _ _).alloc (Nat.le_refl _) _).alloc (by simp) _;have hz3:((w2.alloc (.cells #[.slice none 0 0,.slice none 0 0,.slice none 0 0,.slice none 0 0,.slice none 0 0,.slice none 0 0,.slice none 0 0,.slice none 0 0,.slice none 0 0,.slice none 0 0] 35)).alloc (.cells #[.pointer (some ⟨w2.heap.size,0,none⟩),.slice none 0 0] 38)).heap.size=w2.heap.size+2:=by simp
 have hM3:((w2.alloc (.cells #[.slice none 0 0,.slice none 0 0,.slice none 0 0,.slice none 0 0,.slice none 0 0,.slice none 0 0,.slice none 0 0,.slice none 0 0,.slice none 0 0,.slice none 0 0] 35)).alloc (.cells #[.pointer (some ⟨w2.heap.size,0,none⟩),.slice none 0 0] 38)).heap[w2.heap.size]?=some (.cells #[.slice none 0 0,.slice none 0 0,.slice none 0 0,.slice none 0 0,.slice none 0 0,.slice none 0 0,.slice none 0 0,.slice none 0 0,.slice none 0 0,.slice none 0 0] 35 (0,0)):=heap_alloc2_old w2 _ _;have hW3:((w2.alloc (.cells #[.slice none 0 0,.slice none 0 0,.slice none 0 0,.slice none 0 0,.slice none 0 0,.slice none 0 0,.slice none 0 0,.slice none 0 0,.slice none 0 0,.slice none 0 0] 35)).alloc (.cells #[.pointer (some ⟨w2.heap.size,0,none⟩),.slice none 0 0] 38)).heap[w2.heap.size+1]?=some (.cells #[.pointer (some ⟨w2.heap.size,0,none⟩),.slice none 0 0] 38 (0,0)):=heap_alloc2_new w2 _ _
 generalize((w2.alloc (.cells #[.slice none 0 0,.slice none 0 0,.slice none 0 0,.slice none 0 0,.slice none 0 0,.slice none 0 0,.slice none 0 0,.slice none 0 0,.slice none 0 0,.slice none 0 0] 35)).alloc (.cells #[.pointer (some ⟨w2.heap.size,0,none⟩),.slice none 0 0] 38))=w3 at*
 have B13:Below w1.heap.size w1 w3:=HA.out.below.trans (hBK.mono hz2);have B03:Below w.heap.size w w3:=HF.out.below.trans (B13.mono (by omega));have HST:Hid (∀i,i<9+m→tL w2.heap.size w3 (fun j=>w3.cell? ⟨G,i*9+j,none⟩)):=fun i hi=>A6 HF.out B13 HS.out.1 hz2 (fun j u hj=>cS hBK (HA.out.cell j u hj)) i hi
 have HB0:Hid (Below w.heap.size w w3):=B03;have HP0:Hid (tM w2.heap.size w3 0 w3):=⟨⟨_,_,Km hM3 hW3 (by omega) (HS.out.2.1.below B03) (kT.below HS.out.2.2 B03 HS.out.2.2.two),fun x hx=>by rw[if_neg (by omega),if_neg (by omega)]⟩,Fr.refl _ _⟩;have HCW:Hid (∀k wr,tM w2.heap.size w3 k wr→wr.cell? ⟨w2.heap.size+1,0,none⟩=some (.pointer (some ⟨w2.heap.size,0,none⟩))):=fun k wr h=>by
  obtain⟨col,ps,hw,_⟩:=h.ww
  exact hw.cA (Below.refl _ _)
 generalize w2.heap.size=M at*;clear hM3 hW3 B13 B03 HA HS HF hBK HL HN;have hm1:(m:Int)*120≤140737488355328:=by omega
 go_loopw [7,8] (fun ok i wr=>∃k:Nat,k≤9+m∧ok=.bool true∧i=.int .i64 k∧tM M w3 k wr) (fun _ i _=>9+m-(intOf i).toNat)
 case atStart=>exact ⟨0,by omega,rfl,rfl,HP0.out⟩
 case round=>
  obtain⟨k,hk,rfl,rfl,P⟩:=hrel
  have HP:Hid (tM M w3 k wr):=P;by_cases hlt:k<9+m
  ·obtain⟨kd,p,n,f,pc,Lc,ax,s,t,sd,b,q,e,hc,O⟩:=HST.out k hlt
   have HCL:Hid (∀j,j<9→wr.cell? ⟨G,k*9+j,none⟩=(dw kd p n f (.slice pc Lc ax) s t sd (.slice b q e))[j]?):=fun j hj=>(World.cell?_of_block (w:=w3) (a:=⟨G,k*9+j,none⟩) (P.fr.block G (by omega) (by omega))).trans (hc j hj)
   have h0:wr.cell? ⟨G,k*9,none⟩=some (.int .i64 kd):=HCL.out 0 (by omega);have wb:=HCW.out k wr P;have hi1:(k:Int)<((9+m:Nat):Int):=(by omega);by_cases h2:kd≤16
   ·have HSR:Hid (Calls Tryz.prog 6 #[.pointer (some ⟨M+1,0,none⟩),.agg (dw kd p n f (.slice pc Lc ax) s t sd (.slice b q e))] wr fun e w'=>e=.returned (.bool true)∧tM M w3 (k+1) w'):=P.step (by omega) (by omega) O;clear P hc O;go_wp2_with(refine rR rfl _ rfl G (k*9) rfl (dw kd p n f (.slice pc Lc ax) s t sd (.slice b q e)) rfl HCL.out ?_)
    refine HSR.out.mono ?_;rintro _ w4 ⟨rfl,P4⟩;have wb4:=HCW.out _ w4 P4;have HL4:Hid (Calls Tryz.prog 7 #[.pointer (some ⟨M,0,none⟩)] w4 fun e w'=>e=.returned (.bool true)∧tM M w3 (k+1) w'):=P4.looks (by omega);clear P4 HSR HCL h0 wb;go_wp2_with fail
    refine HL4.out.mono ?_;rintro _ w5 ⟨rfl,P5⟩;have HR:Hid (tM M w3 (k+1) w5):=P5;clear P5 HL4 wb4;go_wp2_with fail
    go_roundw
    case rel=>exact ⟨k+1,by omega,rfl,by go_num,HR.out⟩
    case measure=>simp [intOf];omega
   ·have HL4:Hid (Calls Tryz.prog 7 #[.pointer (some ⟨M,0,none⟩)] wr fun e w'=>e=.returned (.bool true)∧tM M w3 k w'):=P.looks (by omega);clear P hc O HCL;go_wp2_with fail
    refine HL4.out.mono ?_;rintro _ w5 ⟨rfl,P5⟩;have HR:=hid P5.more;clear P5 HL4 wb h0;go_wp2_with fail
    go_roundw
    case rel=>exact ⟨k+1,by omega,rfl,by go_num,HR.out⟩
    case measure=>simp [intOf];omega
  ·obtain rfl:k=9+m:=by omega
   have hnn:¬((9+m:Nat):Int)<((9+m:Nat):Int):=(by omega);have HE:Hid (Below w.heap.size w wr):=by
    have h1:=HB0.out;have f:=P.fr
    exact⟨f.os.trans h1.os,f.tape.trans h1.tape,f.output.trans h1.output,Nat.le_trans h1.size f.size,fun j hj=>(f.block j (by omega) (by omega)).trans (h1.block j hj)⟩
   clear P HP;go_wp2_with fail
   go_ret
   exact⟨rfl,HE.out⟩
end Go.Proofs.YtmpgjkhchfcjlaaGreatDoor
