import Derived.Test.YtmpgjkhchfcjlaaGreatDoorM29
import Derived.Test.YtmpgjkhchfcjlaaGreatDoorM32
namespace Go.Proofs.YtmpgjkhchfcjlaaGreatDoor
open Go.RowKit
set_option maxRecDepth 100000
set_option maxHeartbeats 8000000
theorem AR {kept:List dQ}{l:List Nat}(h:pz kept l)(hk:kept.length≤30):l.length≤30:=Nat.le_trans (qX kept.length l h.nodup h.lt) hk
theorem mL {w:World}{U:Nat→Prop}{Y:Nat}{d:DD}{g:PG}{h:HS}(p:DU w U Y d g h)(hcl:∀k∈h.kept,∀q,jl (k.aV q))(h30:h.kept.length≤30)(hsz:∀k∈h.kept,k.text.size≤24):
  Calls Tryz.prog 57 #[.pointer (some ⟨Y,0,none⟩)] w fun e w'=>(∃v,e=.returned v∧w'.ownsRow w.heap.size 3 1 v (bE h.kept).length (nW (bE h.kept)))∧Below w.heap.size w w':=by
 obtain⟨i1,hi1,hz10,hz11,hz12⟩:=bB (t:=3) (z:=some (.int .i64 0)) (s:=1) (b:=8) (by kernel_rfl)
 have hY:=p.ob.lt
 obtain⟨ao,cap,hF3⟩:=p.head
 have c3:=hF3▸p.ob.cell 3 (by decide);have HP:=hid p;have HCL:=hid hcl;have HSZ:=hid hsz;have HF3:=hid hF3;clear p hcl hF3 hsz;go_in;go_wp2_with fail
 go_loopw [3,4,5,6,7,8,9] (fun ch i _ _ _ _ _ wr=>∃q:Nat,q≤64∧i=.int .i64 q∧Below w.heap.size w wr∧wr.ownsRow w.heap.size 3 1 ch (aR h.kept q).length (nW (aR h.kept q))) (fun _ i _ _ _ _ _ _=>64-(intOf i).toNat)
 case atStart=>exact ⟨0,by omega,rfl,Below.refl _ _,World.ownsRow_nil _ _ _ _⟩
 case round=>
  obtain⟨q,hq,rfl,B,ho⟩:=hrel
  by_cases hlt:q<64
  ·have hiq:(q:Int)<64:=(by omega);have HB:=hid B;have HO:=hid ho;clear B ho;go_wp2_with fail
   go_loopw [3,5,6,7,8,9] (fun ch b _ _ _ _ wr=>∃j:Nat,j≤8∧b=.int .i64 j∧Below w.heap.size w wr∧wr.ownsRow w.heap.size 3 1 ch (bG h.kept q j (aR h.kept q)).length (nW (bG h.kept q j (aR h.kept q)))) (fun _ b _ _ _ _ _=>8-(intOf b).toNat)
   case atStart=>exact ⟨0,by omega,rfl,HB.out,HO.out⟩
   case round=>
    clear HB HO
    obtain⟨j,hj,rfl,B,ho⟩:=hrel
    by_cases hlj:j<8
    ·have hij:(j:Int)<8:=(by omega);have hsh:=Ie j hlj;have hsh2:IntKind.u8.wrap (1*2^j)=eA j:=by rw[Int.one_mul];exact hsh
     have cs:wr.cell? ⟨Y,5+q,none⟩=some (.int .u8 (aS h.kept q:Nat)):=(B.cell (p:=⟨Y,5+q,none⟩) hY).trans (HP.out.seen q hlt);have c3':wr.cell? ⟨Y,3,none⟩=some (.slice ao h.kept.length cap):=(B.cell (p:=⟨Y,3,none⟩) hY).trans c3;have HN:Hid (bG h.kept q (j+1) (aR h.kept q)=gP h.kept q (eA j) (bG h.kept q j (aR h.kept q))):=rfl;have hl30:=AR (ku q j _ (gB h.kept q).1).1 h30;have HB:=hid B;have hbs:=B.size;have hYr:Y<wr.heap.size:=(by omega);have HUN:Hid (bits .and .u8 (aS h.kept q:Nat) (eA j)=0→gP h.kept q (eA j) (bG h.kept q j (aR h.kept q))=bG h.kept q j (aR h.kept q)):=fun e=>zD h.kept q j hlj _ (fun k hk=>HCL.out k hk q) e
     have HBB:=hid (nH hlj);have HFB:Hid _:=Fg h.kept q (eA j) (bG h.kept q j (aR h.kept q));generalize bG h.kept q j (aR h.kept q)=l0 at*;have HO:=hid ho;clear B ho;generalize eA j=bb at*;generalize aS h.kept q=sn at*;generalize hbv:bits .and .u8 (sn:Int) bb=bv at*;by_cases hb0:bv=0
     ·subst hb0;have HX:=hid (HN.out.trans (HUN.out rfl));go_wp2_with fail
      go_roundw
      case rel=>exact ⟨j+1,by omega,by go_num,HB.out,by rw[HX.out];exact HO.out⟩
      case measure=>simp [intOf];omega
     ·have qb:(bv==0)=false:=by rw[beq_eq_false_iff_ne];exact hb0
      generalize wr=wo at*;go_wp2_with fail
      go_loopw [7,8,9] (fun best k _ wx=>∃m:Nat,m≤h.kept.length∧k=.int .i64 m∧best=.int .i64 (dK h.kept q bb l0 m)∧Sm wo wx) (fun _ k _ _=>h.kept.length-(intOf k).toNat)
      case atStart=>exact ⟨0,by omega,rfl,rfl,Sm.refl _⟩
      case round=>
       obtain⟨m,hm,rfl,rfl,S⟩:=hrel
       have Bx:=HB.out.trans (S.below _);have c3x:=S.cell c3';have hYx:Y<wr.heap.size:=by rw[S.heap];exact hYr
       by_cases hlm:m<h.kept.length
       ·obtain⟨b,cap',gk,e3,hnc,hb,ct,cc,_,hgk,hcv⟩:=HP.out.entry m hlm
        rw[HF3.out]at e3;simp only[Value.slice.injEq,true_and]at e3
        obtain⟨rfl,rfl⟩:=e3
        have ct':=(Bx.cell (p:=⟨b,m*3,none⟩) hb).trans ct;have cc':=(Bx.cell (p:=⟨b,m*3+1,none⟩) hb).trans cc;have cq:=(Bx.cell (p:=⟨gk,q,none⟩) hgk).trans (hcv q hlt);have him:(m:Int)<(h.kept.length:Int):=(by omega);have hkm:h.kept.getD m fV∈h.kept:=by rw[List.getD_eq_getElem?_getD,List.getElem?_eq_getElem hlm];exact List.getElem_mem hlm
        have hac:=wu (HCL.out _ hkm q) HBB.out;have HS:=hid S;have HKY:=Kc (p:=q) (b:=bb) hlm;have HBS:Hid (dK h.kept q bb l0 (m+1)=if bg h.kept q bb m then(if l0.contains m then -2 else if dK h.kept q bb l0 m= -1∨(0≤dK h.kept q bb l0 m∧iz h.kept m<iz h.kept (dK h.kept q bb l0 m).toNat)then(m:Int)else dK h.kept q bb l0 m)else dK h.kept q bb l0 m):=rfl;rw[HKY,Fh hlm]at HBS;have hts:=HSZ.out _ hkm;have HBT:Hid (∀y:Nat,dK h.kept q bb l0 m=y→iz h.kept y=(h.kept.getD y fV).text.size∧wr.cell? ⟨b,y*3,none⟩=some (.string (h.kept.getD y fV).text)∧y<h.kept.length∧(h.kept.getD y fV).text.size≤24):=fun y hy=>by
         have hyl:y<h.kept.length:=by have:=uN h.kept q bb l0 m;omega
         obtain⟨b2,cap2,gk2,e3,_,hb2,ct2,_⟩:=HP.out.entry y hyl
         rw[HF3.out]at e3;simp only[Value.slice.injEq,Option.some.injEq,Addr.mk.injEq,true_and,and_true]at e3
         obtain⟨rfl,rfl⟩:=e3
         have hym:h.kept.getD y fV∈h.kept:=by rw[List.getD_eq_getElem?_getD,List.getElem?_eq_getElem hyl];exact List.getElem_mem hyl
         exact⟨Fh hyl,(Bx.cell (p:=⟨b,y*3,none⟩) hb2).trans ct2,hyl,HSZ.out _ hym⟩
        have HBD:Hid _:=uN h.kept q bb l0 m;have HHS:Hid (Calls Tryz.prog 96 #[u3,.int .i64 (m:Nat)] wr fun e w'=>e=.returned (.bool (l0.contains m))∧w'=wr):=xy wr u3 l0 (ay HO.out (fun _ _=>by rw[HS.out.heap])) m (by omega);clear S hcv ct cc hkm Bx HKY;generalize dK h.kept q bb l0 m=x at*
        generalize(h.kept.getD m fV).text=tm at*
        generalize(h.kept.getD m fV).aV q=cv at*
        generalize hkv:bits .and .u8 cv bb=kv at*
        cases hkey:hasB cv bb with
        |false=>
         obtain rfl:kv=0:=hac.2 hkey;rw[hkey]at HBS;go_wp2_with fail
         go_roundw
         case rel=>exact ⟨m+1,by omega,by go_num,by rw[HBS.out];rfl,HS.out⟩
         case measure=>simp [intOf];omega
        |true=>
         have hk0:kv≠0:=fun c=>by rw[hac.1 c]at hkey;cases hkey
         have qk:(kv==0)=false:=by rw[beq_eq_false_iff_ne];exact hk0
         rw[hkey]at HBS;go_wp2_with fail
         refine HHS.out.mono ?_;rintro e w5 ⟨rfl,hw5⟩;obtain rfl:=hw5.symm
         cases hct:l0.contains m with
         |true=>
          rw[hct]at HBS;go_wp2_with fail
          go_quiet(fail)
          go_wp2_with fail
          go_roundw
          case rel=>exact ⟨m+1,by omega,by go_num,by rw[HBS.out];rfl,HS.out.drewN _⟩
          case measure=>simp [intOf];omega
         |false=>
          rw[hct]at HBS;have HBC:Hid (dK h.kept q bb l0 (m+1)=if x= -1∨(0≤x∧tm.size<iz h.kept x.toNat)then(m:Int)else x):=HBS.out;have hbd:=HBD.out;by_cases x1:x= -1
          ·subst x1;go_wp2_with fail
           go_quiet(fail)
           go_wp2_with fail
           go_roundw
           case rel=>exact ⟨m+1,by omega,by go_num,by rw[HBS.out];rfl,HS.out.drewN _⟩
           case measure=>simp [intOf];omega
          ·have q1:(x== -1)=false:=by rw[beq_eq_false_iff_ne];exact x1
           by_cases x0:0≤x
           ·obtain⟨y,rfl⟩:∃y:Nat,x=y:=⟨x.toNat,by omega⟩
            obtain⟨hly,cy,hyl,hys⟩:=HBT.out y rfl
            have hiy:(y:Int)<(h.kept.length:Int):=(by omega);rw[Int.toNat_natCast,hly]at HBC
            generalize(h.kept.getD y fV).text=ty at*
            by_cases hl:tm.size<ty.size
            ·have hil:(tm.size:Int)<(ty.size:Int):=(by omega);have HX:Hid (dK h.kept q bb l0 (m+1)=m):=HBC.out.trans (if_pos (Or.inr ⟨by omega,hl⟩));go_wp2_with fail
             go_quiet(fail)
             go_wp2_with fail
             go_roundw
             case rel=>exact ⟨m+1,by omega,by go_num,by rw[HX.out],HS.out.drewN _⟩
             case measure=>simp [intOf];omega
            ·have hil:¬(tm.size:Int)<(ty.size:Int):=(by omega);have HX:Hid (dK h.kept q bb l0 (m+1)=y):=HBC.out.trans (if_neg (fun c=>c.elim (fun e=>by omega) (fun e=>hl e.2)));go_wp2_with fail
             go_quiet(fail)
             go_wp2_with fail
             go_roundw
             case rel=>exact ⟨m+1,by omega,by go_num,by rw[HX.out],HS.out.drewN _⟩
             case measure=>simp [intOf];omega
           ·obtain rfl:x= -2:=by omega
            have HX:Hid (dK h.kept q bb l0 (m+1)= -2):=HBC.out;go_wp2_with fail
            go_quiet(fail)
            go_wp2_with fail
            go_roundw
            case rel=>exact ⟨m+1,by omega,by go_num,by rw[HX.out],HS.out.drewN _⟩
            case measure=>simp [intOf];omega
       ·obtain rfl:m=h.kept.length:=by omega
        have hnn:¬(h.kept.length:Int)<(h.kept.length:Int):=(by omega);have HX:Hid (bG h.kept q (j+1) (aR h.kept q)=if 0≤dK h.kept q bb l0 h.kept.length then l0++[(dK h.kept q bb l0 h.kept.length).toNat]else l0):=HN.out.trans HFB.out;have HBx:Hid (Below w.heap.size w wr):=Bx;have HOx:Hid (wr.ownsRow w.heap.size 3 1 u3 l0.length (nW l0)):=ay HO.out (fun _ _=>by rw[S.heap]);have hbx:=Bx.size
        obtain⟨av,cv3,hu3⟩:∃a c,u3=.slice a l0.length c:=by
         rcases aO HOx.out with⟨e1,e2⟩|⟨b,c,e1,_⟩
         ·exact⟨none,0,by rw[e2];exact e1⟩
         ·exact⟨_,_,e1⟩
        subst hu3;clear S Bx HUN HFB HN HO HB;generalize dK h.kept q bb l0 h.kept.length=x at*;generalize h.kept.length=nk at*;by_cases x0:0≤x
        ·obtain⟨y,rfl⟩:∃y:Nat,x=y:=⟨x.toNat,by omega⟩
         rw[if_pos x0,Int.toNat_natCast]at HX;go_wp2_with(at_builtin;refine wpList_append_own_at _ rfl (.tmp 89) (.tmp 91) 32 rfl w.heap.size 3 i1 (.int .i64 0) 1 8 Tryz.underlying32 hi1 hz10 hz11 hz12 rfl (by decide) _ l0.length _ rfl (HOx.out.alloc _) ⟨_,0,none⟩ 1 1 [.int .i64 (y:Nat)] rfl rfl (cell_one_new _ _ _) ?c2 (by unfold maxLen;omega) (by omega) (by simp;omega) ?_)
         case c2=>first|rfl|(intro u hu;simp at hu;subst hu;rfl)
         intro v' w6 ho6 hg6 _ hat6;have HB6:Hid (Below w.heap.size w w6):=(HBx.out.alloc hbx _).grown hg6 (by simp;omega) (fun k hk=>(HOx.out.lt k hk).1);have HO6:Hid (w6.ownsRow w.heap.size 3 1 v' (bG h.kept q (j+1) (aR h.kept q)).length (nW (bG h.kept q (j+1) (aR h.kept q)))):=by
          show w6.ownsRow w.heap.size 3 1 v' _ _;rw[HX.out,show nW (l0++[y])=nW l0++[.int .i64 (y:Nat)] by simp[nW],List.length_append];exact ho6
         clear ho6 hg6 hat6;go_wp2_with fail
         go_roundw
         case rel=>exact ⟨j+1,by omega,by go_num,HB6.out,HO6.out⟩
         case measure=>simp [intOf];omega
        ·rw[if_neg x0]at HX;go_wp2_with fail
         go_roundw
         case rel=>exact ⟨j+1,by omega,by go_num,HBx.out,by rw[HX.out];exact HOx.out⟩
         case measure=>simp [intOf];omega
    ·obtain rfl:j=8:=by omega
     have HB:Hid (Below w.heap.size w wr):=B;have HO:Hid (wr.ownsRow w.heap.size 3 1 u3 (bG h.kept q 8 (aR h.kept q)).length (nW (bG h.kept q 8 (aR h.kept q)))):=ho;clear B ho;go_wp2_with fail
     go_roundw
     case rel=>exact ⟨q+1,by omega,by go_num,HB.out,HO.out⟩
     case measure=>simp [intOf];omega
  ·obtain rfl:q=64:=by omega
   have hnn:¬(64:Int)<64:=(by omega);have HO:Hid (wr.ownsRow w.heap.size 3 1 u3 (cu h.kept).length (nW (cu h.kept))):=ho;have c3':wr.cell? ⟨Y,3,none⟩=some (.slice ao h.kept.length cap):=(B.cell (p:=⟨Y,3,none⟩) hY).trans c3;have HB:Hid (Below w.heap.size w wr):=B;have hbs:=B.size;have HFV:Hid (bE h.kept=(List.range h.kept.length).filter fun n=>(cu h.kept).contains n):=rfl;have hl30:(cu h.kept).length≤30:=AR (iM h.kept) h30;clear B ho;generalize cu h.kept=ch at*;generalize wr=w9 at*;go_wp2_with fail
   go_loopw [10,11,12] (fun out k _ wx=>∃m:Nat,m≤h.kept.length∧k=.int .i64 m∧Below w9.heap.size w9 wx∧wx.ownsRow w9.heap.size 3 1 out ((List.range m).filter fun n=>ch.contains n).length (nW ((List.range m).filter fun n=>ch.contains n))) (fun _ k _ _=>h.kept.length-(intOf k).toNat)
   case atStart=>exact ⟨0,by omega,rfl,Below.refl _ _,World.ownsRow_nil _ _ _ _⟩
   case round=>
    obtain⟨m,hm,rfl,B,ho⟩:=hrel
    have c3x:=(B.cell (p:=⟨Y,3,none⟩) (by show Y<w9.heap.size;omega)).trans c3';have hbx:=B.size;have hYx:Y<wr.heap.size:=by omega
    obtain⟨a10,k10,hu10⟩:∃a c,u10=.slice a ((List.range m).filter fun n=>ch.contains n).length c:=by
     rcases aO ho with⟨e1,e2⟩|⟨b,c,e1,_⟩
     ·exact⟨none,0,by rw[e2];exact e1⟩
     ·exact⟨_,_,e1⟩
    subst hu10;have HBx:Hid (Below w9.heap.size w9 wr):=B;by_cases hlm:m<h.kept.length
    ·have him:(m:Int)<(h.kept.length:Int):=(by omega);have HHS:Hid (Calls Tryz.prog 96 #[u3,.int .i64 (m:Nat)] wr fun e w'=>e=.returned (.bool (ch.contains m))∧w'=wr):=xy wr u3 ch (ay HO.out (fun b e=>B.block b (aL HO.out e))) m (by omega);have HN:=CY ch m;have hfl:((List.range m).filter fun n=>ch.contains n).length≤m:=by have:=List.length_filter_le (fun n=>ch.contains n) (List.range m);rw[List.length_range]at this;exact this
     generalize((List.range m).filter fun n=>ch.contains n)=l0 at*
     have HOx:Hid (wr.ownsRow w9.heap.size 3 1 (.slice a10 l0.length k10) l0.length (nW l0)):=ho;have HNN:Hid _:=HN;clear B ho HN;go_wp2_with fail
     refine HHS.out.mono ?_;rintro e w5 ⟨rfl,hw5⟩;obtain rfl:=hw5.symm
     cases hct:ch.contains m with
     |false=>
      rw[hct]at HNN;go_wp2_with fail
      go_roundw
      case rel=>exact ⟨m+1,by omega,by go_num,HBx.out,by rw[HNN.out,if_neg (by decide),List.append_nil];exact HOx.out⟩
      case measure=>simp [intOf];omega
     |true=>
      rw[hct]at HNN;go_wp2_with(at_builtin;refine wpList_append_own_at _ rfl (.tmp 106) (.tmp 108) 32 rfl w9.heap.size 3 i1 (.int .i64 0) 1 8 Tryz.underlying32 hi1 hz10 hz11 hz12 rfl (by decide) _ l0.length _ rfl (HOx.out.alloc _) ⟨_,0,none⟩ 1 1 [.int .i64 (m:Nat)] rfl rfl (cell_one_new _ _ _) ?c2 (by unfold maxLen;omega) (by omega) (by simp;omega) ?_)
      case c2=>first|rfl|(intro u hu;simp at hu;subst hu;rfl)
      intro v' w6 ho6 hg6 _ hat6;have HB6:Hid (Below w9.heap.size w9 w6):=(HBx.out.alloc hbx _).grown hg6 (by simp;omega) (fun k hk=>(HOx.out.lt k hk).1);have HO6:Hid (w6.ownsRow w9.heap.size 3 1 v' ((List.range (m+1)).filter fun n=>ch.contains n).length (nW ((List.range (m+1)).filter fun n=>ch.contains n))):=by
       show w6.ownsRow w9.heap.size 3 1 v' _ _;have hN2:((List.range (m+1)).filter fun n=>ch.contains n)=l0++[m]:=HNN.out;rw[hN2,show nW (l0++[m])=nW l0++[.int .i64 (m:Nat)] by simp[nW],List.length_append];exact ho6
      clear ho6 hg6 hat6;go_wp2_with fail
      go_roundw
      case rel=>exact ⟨m+1,by omega,by go_num,HB6.out,HO6.out⟩
      case measure=>simp [intOf];omega
    ·obtain rfl:m=h.kept.length:=by omega
     have hnm:¬(h.kept.length:Int)<(h.kept.length:Int):=(by omega);rw[←HFV.out]at ho⊢;have HOx:Hid (wr.ownsRow w9.heap.size 3 1 (.slice a10 (bE h.kept).length k10) (bE h.kept).length (nW (bE h.kept))):=ho;clear B ho HFV;go_wp2_with fail
     go_ret
     refine⟨⟨_,rfl,?_⟩,HB.out.trans (HBx.out.mono hbs)⟩
     have q:=HOx.out
     refine⟨q.1,q.2.imp id ?_⟩
     rintro⟨b,c,cur,h1,h2,h3⟩
     exact⟨b,c,cur,h1,by omega,h3⟩
end Go.Proofs.YtmpgjkhchfcjlaaGreatDoor
