import Derived.Test.YtmpgjkhchfcjlaaGreatDoorM29
namespace Go.Proofs.YtmpgjkhchfcjlaaGreatDoor
open Go.RowKit
set_option maxRecDepth 100000
set_option maxHeartbeats 8000000
theorem wZ (w W:World)(U:Nat→Prop)(Y ob gc:Nat)(g:PG)(h:HS)(s:ByteArray)(v11 v12 v13 v14 v15 v16 v17 v18 v19 v20 v21 v22 v23:Value)(A:wY w W U Y ob gc g h s)(hk:(g.R s).kind=1):(ag Tryz.f82.body).wp Tryz.prog (CE U Y g h s w) (CD Y ob gc s v11 v12 v13 v14 v15 v16 v17 v18 v19 v20 v21 v22 v23) W:=by
 obtain⟨⟨d5,hdt⟩,KT,KU,f69,f70,hlt,hne,hol,e0,hz,hlog,_,_,hs⟩:=A
 have htr:=hz.tries;have hfn:=hz.found;rw[hk]at e0
 obtain⟨hx,hhx⟩:∃hx,aD g.R h s=hx:=⟨_,rfl⟩
 have HT1:Hid (h.found.any (dV (g.R s).fault (g.R s).place)=true→hx=({h with tries:=h.tries+1},0)):=fun e=>hhx.symm.trans (CB hk e)
 have HT2:Hid (h.found.any (dV (g.R s).fault (g.R s).place)=false→hx=({h with tries:=h.tries+1,found:=h.found++[⟨s,(g.R s).fault,(g.R s).place⟩],az:=h.az++[(false,s)]},99)):=fun e=>hhx.symm.trans (CC hk e)
 have HHX:Hid (∀W,Calls Tryz.prog 124 #[.string s] W fun e w'=>e=.returned (.string (strOfNums (ei (nums s))))∧Below W.heap.size W w'):=fun W=>wR W s hs
 have hxs:(strOfNums (ei (nums s))).size≤48:=by rw[eZ,jw,af];omega
 have HXD:Hid (iw h++⟨#[99,32]⟩++strOfNums (ei (nums s))++⟨#[10]⟩=strOfNums (gQ (h.az++[(false,s)]))):=wU h.az false s;generalize strOfNums (ei (nums s))=xs at HHX hxs HXD;unfold CE;rw[hhx]
 obtain⟨i3,hi3,hz30,hz31,hz32⟩:=bB yR
 have HDT:Hid (DT w (W.setCell ⟨Y,69,none⟩ (.int .i64 ((h.tries:Int)+1))) U Y g {h with tries:=h.tries+1} ob gc s d5):=hdt;clear hdt hz hk hhx;unfold CD;conv=>arg 2;whnf
 go_wp2_with fail
 generalize W.setCell ⟨Y,69,none⟩ (.int .i64 ((h.tries:Int)+1))=W5 at*
 obtain⟨ao,cap,hv4,hnc,hcap,hrow⟩:=JU (HDT.out.du.ob.own 4 rfl)
 rw[HDT.out.du.x4]at hrow;have hn4:kE {h with tries:=h.tries+1} 4=h.found.length:=rfl;rw[hn4]at hv4 hnc hrow;have c4:W5.cell? ⟨Y,4,none⟩=some (.slice ao h.found.length cap):=hv4▸HDT.out.du.ob.cell 4 (by decide);have o1:=HDT.out.o1;have o2:=HDT.out.o2;have hol5:=HDT.out.ol;have HRW:Hid (∀j,j<h.found.length→∃b,ao=some ⟨b,0,none⟩∧b<W5.heap.size∧∀(i:Nat) (u:Value),(bH h.found)[i]?=some u→W5.cell? ⟨b,i,none⟩=some u):=hrow;have hY5:=HDT.out.du.ob.lt;have HV4:Hid (d5.F 4=.slice ao h.found.length cap):=hv4;clear hrow KT f69 KU f70 e0 hlt hol hv4 hn4;go_loopw [7] (fun i wr=>∃k:Nat,k≤h.found.length∧i=.int .i64 k∧Sm W5 wr∧(h.found.take k).any (dV (g.R s).fault (g.R s).place)=false) (fun i _=>h.found.length-(intOf i).toNat)
 case atStart=>exact ⟨0,by omega,rfl,Sm.refl _,by simp⟩
 case round=>
  obtain⟨k,hk,rfl,S,hno⟩:=hrel
  have c4':=S.cell c4;have o1':=S.cell o1;have o2':=S.cell o2;have hYr:Y<wr.heap.size:=by rw[S.heap];exact hY5
  have hor:ob<wr.heap.size:=by rw[S.heap];exact hol5
  by_cases hlt:k<h.found.length
  ·obtain⟨b,hao,hb,hc⟩:=HRW.out k hlt
   obtain⟨_,f2,f3⟩:=gT h.found k hlt
   have e1:=S.cell (hc _ _ f2);have e2:=S.cell (hc _ _ f3);subst hao;have hi1:(k:Int)<(h.found.length:Int):=(by omega);have HS:Hid (Sm W5 wr):=S;have HNX:Hid ((h.found.take (k+1)).any (dV (g.R s).fault (g.R s).place)=(decide ((h.found.getD k mY).fault=(g.R s).fault)&&decide ((h.found.getD k mY).place=(g.R s).place))):=by
    show _=_;rw[List.take_add_one,List.any_append,hno,List.getD_eq_getElem?_getD,List.getElem?_eq_getElem hlt];simp[dV]
   have HAL:Hid ((h.found.take (k+1)).any (dV (g.R s).fault (g.R s).place)=true→hx=({h with tries:=h.tries+1},0)):=fun e=>HT1.out (by
    rw[List.any_eq_true]at e⊢
    obtain⟨x,hx,hy⟩:=e
    exact⟨x,List.mem_of_mem_take hx,hy⟩)
   clear S hno f2 f3 hc hb HT1 HT2
   generalize(h.found.getD k mY).fault=a1 at*
   generalize(h.found.getD k mY).place=a2 at*
   generalize(g.R s).fault=ff at*
   generalize(g.R s).place=pp at*
   by_cases x1:a1=ff
   ·by_cases x2:a2=pp
    ·subst x1 x2;have HY:Hid (hx=({h with tries:=h.tries+1},0)):=HAL.out (HNX.out.trans (by simp));go_wp2_with fail
     go_quiet(fail)
     go_wp2_with fail
     go_ret
     exact⟨by rw[HY.out];rfl,by rw[HY.out];exact(HDT.out.sm (HS.out.drewN _)).doc⟩
    ·subst x1;have q3:(a2==pp)=false:=by rw[beq_eq_false_iff_ne];exact x2
     go_wp2_with fail
     go_quiet(fail)
     go_wp2_with fail
     go_roundw
     case rel=>exact ⟨k+1,by omega,by go_num,HS.out.drewN _,HNX.out.trans (by simp[x2])⟩
     case measure=>simp [intOf];omega
   ·have q3:(a1==ff)=false:=by rw[beq_eq_false_iff_ne];exact x1
    go_wp2_with fail
    go_quiet(fail)
    go_wp2_with fail
    go_roundw
    case rel=>exact ⟨k+1,by omega,by go_num,HS.out.drewN _,HNX.out.trans (by simp[x1])⟩
    case measure=>simp [intOf];omega
  ·obtain rfl:k=h.found.length:=by omega
   have hnn:¬(h.found.length:Int)<(h.found.length:Int):=(by omega);rw[List.take_length]at hno;have HY:Hid (hx=({h with tries:=h.tries+1,found:=h.found++[⟨s,(g.R s).fault,(g.R s).place⟩],az:=h.az++[(false,s)]},99)):=HT2.out hno;have t6:=HDT.out.sm S;have HFC:Hid _:=t6.KS ⟨s,(g.R s).fault,(g.R s).place⟩;dsimp only at HFC;have hrow:=(t6.du.gr ((Below.refl _ _).alloc (Nat.le_refl _) (.cells #[.string s,.int .i64 (g.R s).fault,.int .i64 (g.R s).place] 67))).ob.own 4 rfl;rw[HV4.out]at HFC hrow;have HOW:Hid ((wr.alloc (.cells #[.string s,.int .i64 (g.R s).fault,.int .i64 (g.R s).place] 67)).ownsRow 0 67 3 (.slice ao h.found.length cap) h.found.length (d5.X 4)):=hrow;clear t6 S hno HT1 HT2 HRW HDT hrow
   generalize(g.R s).fault=ff at*
   generalize(g.R s).place=pp at*
   generalize hnf:h.found.length=nf at*;go_wp2_with fail
   go_region_law(refine fQ rfl (.tmp 85) (.tmp 92) 57 rfl 0 67 i3 _ 3 32 Tryz.underlying57 hi3 hz30 hz31 hz32 rfl (by decide) (.slice ao nf cap) nf (d5.X 4) (by simp[Act.eval]) (ay HOW.out (fun _ _=>rfl)) ⟨wr.heap.size,0,none⟩ 1 1 [.string s,.int .i64 ff,.int .i64 pp] (by simp[Act.eval]) rfl (gZ wr [.string s,.int .i64 ff,.int .i64 pp] 67 wr.heap.size rfl) (by intro u hu;simp at hu;rcases hu with rfl|rfl|rfl<;>rfl) (by unfold maxLen;omega) (by omega) (by omega) ?_;intro v6 w6 ho6 hg6 hat6;obtain⟨g6,k6,rfl⟩:=aB ho6 (by omega);obtain⟨⟨c6,f6,hY6⟩,hfin⟩:=HFC.out _ w6 ho6 ⟨hg6.os,hg6.tape,hg6.output,hg6.size,hg6.block⟩ hat6;have HALL:Hid _:=hfin;clear ho6 hg6 hat6 hfin)
   all_goals
    go_wp2_with fail
    generalize w6.setCell ⟨Y,4,none⟩ _=W7 at*
    obtain⟨c73,f73,hY7,hnx⟩:=HALL.out.told false s
    have HNX:Hid (∀w8,Below W7.heap.size W7 w8→(w8.cell? ⟨Y,73,none⟩=some (.string (iw h))∧w8.frozen? ⟨Y,73,none⟩=false∧Y<w8.heap.size)∧bu U Y g hx.1 w (w8.setCell ⟨Y,73,none⟩ (.string (iw h++⟨#[99,32]⟩++xs++⟨#[10]⟩)))):=fun w8 B=>by
     rw[HXD.out,HY.out];exact hnx w8 B
    have c73':W7.cell? ⟨Y,73,none⟩=some (.string (iw h)):=c73;clear c73 hnx HXD HALL c6 f6 hY6 c4' c4 o1 o2 o1' o2';generalize iw h=lg at*;go_region_with(go_at_call 124;refine(HHX.out W7.drew).mono ?_;rintro e w8 ⟨rfl,B8⟩;obtain⟨⟨c8,f8,hY8⟩,hfin⟩:=HNX.out w8 ⟨B8.os,B8.tape,B8.output,B8.size,B8.block⟩;have HFN:Hid _:=hfin;clear hfin B8)
    all_goals
     go_wp2;go_ret
     exact⟨by rw[HY.out];rfl,HFN.out⟩
end Go.Proofs.YtmpgjkhchfcjlaaGreatDoor
