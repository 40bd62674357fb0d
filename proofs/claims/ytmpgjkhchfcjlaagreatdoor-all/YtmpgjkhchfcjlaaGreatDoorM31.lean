import Derived.Test.YtmpgjkhchfcjlaaGreatDoorM29
namespace Go.Proofs.YtmpgjkhchfcjlaaGreatDoor
open Go.RowKit
set_option maxRecDepth 100000
set_option maxHeartbeats 8000000
theorem CG (w W:World)(U:Nat→Prop)(Y ob gc:Nat)(g:PG)(h:HS)(s:ByteArray)(v11 v12 v13 v14 v15 v16 v17 v18 v19 v20 v21 v22 v23:Value)(A:wY w W U Y ob gc g h s)(hk1:(g.R s).kind≠1)(hk2:(g.R s).kind≠2):(ag Tryz.f82.body).wp Tryz.prog (CE U Y g h s w) (CD Y ob gc s v11 v12 v13 v14 v15 v16 v17 v18 v19 v20 v21 v22 v23) W:=by
 obtain⟨⟨d5,hdt⟩,KT,KU,f69,f70,hlt,hne,hol,e0,hz,hlog,hcl,hwk,hs⟩:=A
 have htr:=hz.tries;have hkn:=hz.kept
 obtain⟨hx,hhx⟩:∃hx,aD g.R h s=hx:=⟨_,rfl⟩
 have HT1:Hid (30≤h.kept.length∨jo h.kept (g.R s).aV=false→hx=({h with tries:=h.tries+1},0)):=fun e=>hhx.symm.trans (I2 hk1 hk2 e)
 have HT2:Hid (h.kept.length<30→jo h.kept (g.R s).aV=true→hx=({h with tries:=h.tries+1,kept:=h.kept++[⟨s,(g.R s).aV⟩],az:=h.az++[(true,s)]},113)):=fun e e'=>hhx.symm.trans (I3 hk1 hk2 e e')
 have HNW:Hid (ic h.kept (g.R s).aV 64=jo h.kept (g.R s).aV):=Cz _ _ (g.mC.aV s hs) hcl;have HCL:Hid ((∀q,jl ((g.R s).aV q))∧∀k∈h.kept,∀q,jl (k.aV q)):=⟨g.mC.aV s hs,hcl⟩;have HHX:Hid (∀W,Calls Tryz.prog 124 #[.string s] W fun e w'=>e=.returned (.string (strOfNums (ei (nums s))))∧Below W.heap.size W w'):=fun W=>wR W s hs
 have hxs:(strOfNums (ei (nums s))).size≤48:=by rw[eZ,jw,af];omega
 have HXD:Hid (iw h++⟨#[113,32]⟩++strOfNums (ei (nums s))++⟨#[10]⟩=strOfNums (gQ (h.az++[(true,s)]))):=wU h.az true s;generalize strOfNums (ei (nums s))=xs at HHX hxs HXD;unfold CE;rw[hhx];have q1:((g.R s).kind==1)=false:=by rw[beq_eq_false_iff_ne];exact hk1
 have q2:((g.R s).kind==2)=false:=by rw[beq_eq_false_iff_ne];exact hk2
 obtain⟨i3,hi3,hz30,hz31,hz32⟩:=bB JT
 have HDT:=hid hdt;have HWK:=hid hwk;clear hdt hz hk1 hk2 hhx hcl hwk
 generalize(g.R s).kind=kk at*
 unfold CD;conv=>arg 2;whnf
 go_wp2_with fail
 generalize W.setCell ⟨Y,69,none⟩ (.int .i64 ((h.tries:Int)+1))=W5 at*;have hgcl:=HDT.out.du.dk.lt _ HDT.out.Lu;have hY5:=HDT.out.du.ob.lt;clear KT f69 KU f70 e0 hlt hol q1 q2;go_loopw [8,9] (fun f i wr=>∃k:Nat,k≤64∧i=.int .i64 k∧f=.bool (ic h.kept (g.R s).aV k)∧Sm W5 wr) (fun _ i _=>64-(intOf i).toNat)
 case atStart=>exact ⟨0,by omega,rfl,rfl,Sm.refl _⟩
 case round=>
  obtain⟨k,hk,rfl,rfl,S⟩:=hrel
  by_cases hlt:k<64
  ·have cg:=S.cell (HDT.out.aV k hlt);have cy:wr.cell? ⟨Y,5+k,none⟩=some (.int .u8 (aS h.kept k:Nat)):=by
    have:=S.cell (HDT.out.du.cell (5+k) (by omega))
    rw[this];unfold ja;simp only[if_neg (show ¬5+k=3 by omega),if_neg (show ¬5+k=4 by omega),if_neg (show ¬5+k=0 by omega),if_neg (show ¬5+k=1 by omega),if_neg (show ¬5+k=2 by omega),if_neg (show ¬5+k=69 by omega),if_neg (show ¬5+k=70 by omega),if_neg (show ¬5+k=71 by omega),if_neg (show ¬5+k=72 by omega),if_neg (show ¬5+k=73 by omega),if_neg (show ¬5+k=74 by omega),Nat.add_sub_cancel_left]
   have hYr:Y<wr.heap.size:=by rw[S.heap];exact hY5
   have hgr:gc<wr.heap.size:=by rw[S.heap];exact hgcl
   have hi1:(k:Int)<64:=(by omega);have HS:=hid S;have HN:Hid (ic h.kept (g.R s).aV (k+1)=(ic h.kept (g.R s).aV k||decide (bits .andNot .u8 ((g.R s).aV k) (aS h.kept k:Nat)≠0))):=zj _ _ _;clear S;generalize ic h.kept (g.R s).aV k=f0 at*;generalize hcv:(g.R s).aV k=cv at cg HN;generalize aS h.kept k=sn at cy HN;generalize hbv:bits .andNot .u8 cv (sn:Int)=bv at HN
   cases f0 with
   |true=>
    go_wp2_with fail
    go_quiet(fail)
    go_wp2_with fail
    go_roundw
    case rel=>exact ⟨k+1,by omega,by go_num,by rw[HN.out];rfl,HS.out.drewN _⟩
    case measure=>simp [intOf];omega
   |false=>
    by_cases hb:bv=0
    ·have qb:(bv==0)=true:=by rw[beq_iff_eq];exact hb
     have qd:decide (bv=0)=true:=by rw[decide_eq_true_eq];exact hb
     go_wp2_with fail
     go_quiet(fail)
     go_wp2_with fail
     go_roundw
     case rel=>exact ⟨k+1,by omega,by go_num,by rw[HN.out];simp[hb],HS.out.drewN _⟩
     case measure=>simp [intOf];omega
    ·have qb:(bv==0)=false:=by rw[beq_eq_false_iff_ne];exact hb
     have qd:decide (bv=0)=false:=by rw[decide_eq_false_iff_not];exact hb
     go_wp2_with fail
     go_quiet(fail)
     go_wp2_with fail
     go_roundw
     case rel=>exact ⟨k+1,by omega,by go_num,by rw[HN.out];simp[hb],HS.out.drewN _⟩
     case measure=>simp [intOf];omega
  ·obtain rfl:k=64:=by omega
   rw[HNW.out]
   obtain⟨ao,cap,hv3,hnc,hcap,hrow⟩:=JU ((HDT.out.sm S).du.ob.own 3 rfl)
   have hn3:kE {h with tries:=h.tries+1} 3=h.kept.length:=rfl;rw[hn3]at hv3 hnc hrow;have c3:=hv3▸(HDT.out.sm S).du.ob.cell 3 (by decide);have hYr:Y<wr.heap.size:=by rw[S.heap];exact hY5
   have HS:=hid S;have HV3:=hid hv3;clear S hrow hv3 hn3
   cases hnw:jo h.kept (g.R s).aV with
   |false=>
    have HY:Hid (hx=({h with tries:=h.tries+1},0)):=HT1.out (Or.inr hnw);generalize h.kept.length=nk at*;go_wp2_with fail
    go_ret
    exact⟨by rw[HY.out];rfl,by rw[HY.out];exact(HDT.out.sm HS.out).doc⟩
   |true=>
    by_cases h30:30≤h.kept.length
    ·have HY:Hid (hx=({h with tries:=h.tries+1},0)):=HT1.out (Or.inl h30);generalize h.kept.length=nk at*;have hi30:(30:Int)≤(nk:Int):=(by omega);go_wp2_with fail
     go_ret
     exact⟨by rw[HY.out];rfl,by rw[HY.out];exact(HDT.out.sm HS.out).doc⟩
    ·have hi30:¬(30:Int)≤(h.kept.length:Int):=(by omega);have HY:Hid (hx=({h with tries:=h.tries+1,kept:=h.kept++[⟨s,(g.R s).aV⟩],az:=h.az++[(true,s)]},113)):=HT2.out (by omega) hnw;have t6:=HDT.out.sm HS.out;have HFC:Hid _:=t6.KV HWK.out;have hrow:=(t6.du.gr ((Below.refl _ _).alloc (Nat.le_refl _) (.cells #[.string s,.slice (some ⟨gc,0,none⟩) 64 64,.bool false] 149))).ob.own 3 rfl;rw[HV3.out]at HFC hrow;have HOW:Hid ((wr.alloc (.cells #[.string s,.slice (some ⟨gc,0,none⟩) 64 64,.bool false] 149)).ownsRow 0 149 3 (.slice ao h.kept.length cap) h.kept.length (d5.X 3)):=hrow;clear t6 hrow HT1 HT2 HDT HNW hnw;dsimp only at HFC;generalize hnk:h.kept.length=nk at*;go_wp2_with(at_builtin;refine wpList_append_own_at _ rfl (.tmp 141) (.tmp 145) 56 rfl 0 149 i3 _ 3 48 Tryz.underlying56 hi3 hz30 hz31 hz32 rfl (by decide) _ nk _ rfl HOW.out ⟨wr.heap.size,0,none⟩ 1 1 [.string s,.slice (some ⟨gc,0,none⟩) 64 64,.bool false] rfl rfl (cG wr _ _) ?c2 (by unfold maxLen;omega) (by omega) (by omega) ?_)
     case c2=>exact ⟨rfl,rfl,rfl⟩
     intro v6 w6 ho6 hg6 _ hat6
     obtain⟨⟨c6,f6,hY6⟩,d1,hdl⟩:=HFC.out v6 w6 ho6 hg6 (by simpa using hat6)
     obtain⟨g6,k6,rfl⟩:=aB ho6 (by omega)
     have HDL:=hid hdl;clear ho6 hg6 hat6 hdl HFC HOW;go_wp2_with fail
     generalize w6.setCell ⟨Y,3,none⟩ (.slice (some ⟨g6,0,none⟩) (nk+1) k6)=W7 at*;have hg7:gc<W7.heap.size:=World.block_lt_of_cell? W7 ⟨gc,0,none⟩ (HDL.out.aV 0 (by omega));clear c6 f6 hY6 c3;go_loopw [10] (fun i wx=>∃k:Nat,k≤64∧i=.int .i64 k∧lG W7 (Gr U w W7) Y d1 g (h.kept++[⟨s,(g.R s).aV⟩]) h.worked (kE {h with tries:=h.tries+1,kept:=h.kept++[⟨s,(g.R s).aV⟩]}) k wx∧∀p,p<64→wx.cell? ⟨gc,p,none⟩=some (.int .u8 ((g.R s).aV p))) (fun i _=>64-(intOf i).toNat)
     case atStart=>exact ⟨0,by omega,rfl,HDL.out.bits,HDL.out.aV⟩
     case round=>
      obtain⟨k,hk,rfl,hb,hcv⟩:=hrel
      by_cases hlt:k<64
      ·obtain⟨cy,fy,hYx⟩:=hb.at (5+k) (by omega) (by omega)
       rw[HDL.out.val (5+k) (by omega) (by omega)]at cy;unfold ja at cy;simp only[if_neg (show ¬5+k=3 by omega),if_neg (show ¬5+k=4 by omega),if_neg (show ¬5+k=0 by omega),if_neg (show ¬5+k=1 by omega),if_neg (show ¬5+k=2 by omega),if_neg (show ¬5+k=69 by omega),if_neg (show ¬5+k=70 by omega),if_neg (show ¬5+k=71 by omega),if_neg (show ¬5+k=72 by omega),if_neg (show ¬5+k=73 by omega),if_neg (show ¬5+k=74 by omega),Nat.add_sub_cancel_left]at cy;have cg:=hcv k hlt;have hgx:gc<wr.heap.size:=World.block_lt_of_cell? wr ⟨gc,k,none⟩ cg;have hi1:(k:Int)<64:=(by omega);have HE:Hid (bits .or .u8 (aS h.kept k:Nat) ((g.R s).aV k)=(aS (h.kept++[⟨s,(g.R s).aV⟩]) k:Nat)):=by
        show _=_;rw[sW];have h1:=qi h.kept k (fun x hx=>HCL.out.2 x hx k);have h2:=(HCL.out.1 k).bd
        have:=lz (aS h.kept k) ((g.R s).aV k).toNat h1 (by omega)
        rw[show(((g.R s).aV k).toNat:Int)=(g.R s).aV k by omega]at this;exact this
       have HNB:Hid _:=hb.drew.next hlt;rw[←HE.out]at HNB;have HC:Hid (∀(x:Value) (p:Nat),p<64→(wr.drew.setCell ⟨Y,5+k,none⟩ x).cell? ⟨gc,p,none⟩=some (.int .u8 ((g.R s).aV p))):=fun x p hp=>(World.cell?_setCell_other _ _ _ _ (fun c=>HDL.out.ne (by injection c with c1 _ _;exact c1.symm))).trans (hcv p hp)
       clear hb hcv HE
       generalize(g.R s).aV k=cv at*
       generalize aS h.kept k=sn at*;go_wp2_with fail
       go_region
       all_goals
        go_wp2_with fail
        go_roundw
        case rel=>exact ⟨k+1,by omega,by go_num,HNB.out,HC.out _⟩
        case measure=>simp [intOf];omega
      ·obtain rfl:k=64:=by omega
       have HALL:Hid _:=HDL.out.done hb;clear hb hcv;go_wp2_with fail
       obtain⟨c73,f73,hY7,hnx⟩:=HALL.out.told true s
       have HNX:Hid (∀w8,Below wr.heap.size wr w8→(w8.cell? ⟨Y,73,none⟩=some (.string (iw h))∧w8.frozen? ⟨Y,73,none⟩=false∧Y<w8.heap.size)∧bu U Y g hx.1 w (w8.setCell ⟨Y,73,none⟩ (.string (iw h++⟨#[113,32]⟩++xs++⟨#[10]⟩)))):=fun w8 B=>by
        rw[HXD.out,HY.out];exact hnx w8 B
       have c73':wr.cell? ⟨Y,73,none⟩=some (.string (iw h)):=c73;clear c73 hnx HXD HALL HDL;generalize iw h=lg at*;go_region_with(go_at_call 124;refine(HHX.out wr.drew).mono ?_;rintro e w8 ⟨rfl,B8⟩;obtain⟨⟨c8,f8,hY8⟩,hfin⟩:=HNX.out w8 ⟨B8.os,B8.tape,B8.output,B8.size,B8.block⟩;have HFN:Hid _:=hfin;clear hfin B8)
       all_goals
        go_wp2;go_ret
        exact⟨by rw[HY.out];rfl,HFN.out⟩
theorem fP {P:Program}{ops:Array Oper}{o:Oper}{a:Act}{w:World}{K:Act→World→Prop}{Q:Exit→Act→World→Prop}{E:Prop}
  (hgd:o.guard=none)(s x:Operand)(t:TypeId)(ho:o.op=.call {callee:=.builtin .append,args:=#[s,x],argTypes:=#[t,t]})
  (base:Nat)(e:TypeId)(i:TypeInfo)(z:Value)(size bytes:Nat)(ht:P.underlying t=some (.slice e))(hi:P.info? e=some i)(hz:i.zero=some z)
  (hsize:i.size=size)(hby:i.bytes=bytes)(hzs:z.cells.size=size)(hsz:0<size)
  (v:Value)(n:Nat)(xs:List Value)(hs:a.eval s=v)(hown:w.ownsRow base e size v n xs)
  (ad:Addr)(m c:Nat)(news:List Value)(hx:a.eval x=.slice (some ad) m c)(hl:news.length=m*size)(hnews:∀j u,news[j]?=some u→w.cell? (ad.add j)=some u)(h1:∀u∈news,u.oneCell'=true)
  (h63:n+m≤maxLen)(hbytes:(n+m)*bytes≤140737488355328)(hbase:base≤w.heap.size)
  (h:∀v' w',w'.ownsRow base e size v' (n+m) (xs++news)→w.grownBy w' v.ownBlock→(v'.ownBlock=v.ownBlock∨v'.ownBlock=some w.heap.size)→K (a.put o.dst v') w'):
  if Region.wanted o (yielded ops a.tmps)=true then Oper.wp P o a w K Q else E:=by
 have hw:Region.wanted o (yielded ops a.tmps)=true:=by simp[Region.wanted,hgd]
 rw[if_pos hw]
 obtain⟨v',w',hr,h2,h3,_,h5⟩:=run_append_own_at (P:=P) w base t o.type e i z size bytes ht hi hz hsize hby hzs hsz v n xs hown ad m c news hl hnews h1 h63 hbytes hbase
 unfold Oper.wp;simp[execOp,ho,resolve,invoke,builtin,hs,hx,hr,Result.andThen];exact h v' w' h2 h3 h5
theorem World.grownBy.trans' {a b c:World}{row:Option Nat}(h:a.grownBy b row)(k:b.grownBy c row):a.grownBy c row:=
 ⟨k.os.trans h.os,k.tape.trans h.tape,k.output.trans h.output,Nat.le_trans h.size k.size,fun i hi hne=>(k.block i (Nat.lt_of_lt_of_le hi h.size) hne).trans (h.block i hi hne)⟩
def PR (w:World)(u:Value)(k:Nat)(f:Nat→Int)(t:Int→Value):Prop:=
 (u=.slice none 0 0∧k=0)∨∃g cap,u=.slice (some ⟨g,0,none⟩) k cap∧g<w.heap.size∧k≤cap∧cap≤9223372036854775807∧∀j,j<k→w.cell? ⟨g,j,none⟩=some (t (f j))
theorem PR.of {w:World}{base:Nat}{e:TypeId}{u:Value}{k:Nat}{f:Nat→Int}{t:Int→Value}(h:w.ownsRow base e 1 u k ((List.range k).map fun j=>t (f j))):PR w u k f t:=by
 rcases h.2 with⟨hv,h0⟩|⟨g,cap,cur,hv,hb,hh,hle,hcap,hcs,htake⟩
 ·exact Or.inl ⟨hv,h0⟩
 ·refine Or.inr ⟨g,cap,hv,(Array.getElem?_eq_some_iff.1 hh).1,hle,by unfold maxLen at hcap;omega,fun j hj=> ?_⟩
  have:=(hv▸h).cellAt j (by omega)
  rw[this];simp[List.getElem?_range hj]
theorem PR.cR {w:World}{u:Value}{k:Nat}{f:Nat→Int}(h:PR w u k f (Value.int .u8)):b9 w u k f:=by
 rcases h with⟨rfl,rfl⟩|⟨g,cap,rfl,hg,hle,hcap,hc⟩
 ·exact .bare none 0 rfl rfl
 ·by_cases h0:k=0
  ·subst h0;exact .bare _ cap rfl rfl
  ·exact .full g 0 cap rfl ⟨fun i hi=>by rw[Nat.zero_add];exact hc i hi,hle,hcap,by omega⟩
theorem PR.keep {w w':World}{u v:Value}{k n:Nat}{f:Nat→Int}{t:Int→Value}{news:List Value}(h:PR w u k f t)(hg:w.grownBy w' v.ownBlock)
  (hnews:∀i x,news[i]?=some x→x=t (f (n+i)))
  (hk:∀g j x,v.ownBlock=some g→w.cell? ⟨g,j,none⟩=some x→w'.cell? ⟨g,j,none⟩=some x∨(n≤j∧w'.cell? ⟨g,j,none⟩=news[j-n]?∧j-n<news.length)):PR w' u k f t:=by
 rcases h with h|⟨g,cap,hu,hgl,hle,hcap,hc⟩
 ·exact Or.inl h
 ·refine Or.inr ⟨g,cap,hu,Nat.lt_of_lt_of_le hgl hg.size,hle,hcap,fun j hj=> ?_⟩;by_cases e:v.ownBlock=some g
  ·rcases hk g j _ e (hc j hj)with q|⟨q1,q2,q3⟩
   ·exact q
   ·rw[q2]
    have:=hnews (j-n) _ (List.getElem?_eq_getElem q3)
    rw[List.getElem?_eq_getElem q3,this,show n+(j-n)=j by omega]
  ·exact hg.cell (a:=⟨g,j,none⟩) (hc j hj) (fun c=>e c.symm)
theorem PR.alloc {w:World}{u:Value}{k:Nat}{f:Nat→Int}{t:Int→Value}(h:PR w u k f t)(o:Obj):PR (w.alloc o) u k f t:=by
 rcases h with h|⟨g,cap,hu,hgl,hle,hcap,hc⟩
 ·exact Or.inl h
 ·exact Or.inr ⟨g,cap,hu,by simp;omega,hle,hcap,fun j hj=>(World.cell?_alloc_past _ _ _ hgl).trans (hc j hj)⟩
theorem PR.block {w:World}{u:Value}{k:Nat}{f:Nat→Int}{t:Int→Value}(h:PR w u k f t){g:Nat}(hg:u.ownBlock=some g):g<w.heap.size:=by
 rcases h with⟨rfl,_⟩|⟨g',cap,rfl,hgl,_⟩
 ·cases hg
 ·have:g'=g:=by simpa[Value.ownBlock]using hg
  omega
theorem BK.out {base M:Nat}{w w':World}{F:Nat→Value}{X:Nat→List Value}(h:BK base M w F X){row:Option Nat}(hg:w.grownBy w' row)(ho:∀g,row=some g→rX M F g):BK base M w' F X:=by
 cases row with
 |none=>exact h.same hg.size (fun k hk=>hg.block k hk (fun c=>by cases c))
 |some g=>exact h.other hg (ho g rfl)
theorem BD.out {M:Nat}{w w':World}{F:Nat→Value}{X:Nat→List Value}(d:BD M w F X){row:Option Nat}(hg:w.grownBy w' row)(hnew:∀u g,Rec X u→row=some g→u.ownBlock≠some g):BD M w' F X:=
 d.keep hg.size (fun _ _ h=>h) (fun v k hv hk hl _=>hg.block k hl (fun c=>hnew v k hv c.symm hk))
def fA (fu sd:Int):Array Value:=#[.slice none 0 0,.int .i64 fu,.int .u64 sd,.slice none 0 0,.slice none 0 0]++(Array.replicate 64 (.int .u8 0)++#[.int .i64 0,.int .i64 0,.int .i64 0,.int .i64 0,.string ByteArray.empty,.bool false])
theorem JV (fu sd:Int)(w:World):(Instr.build 62 #[(1,.int .i64 fu),(2,.int .u64 sd)]).run Tryz.prog w=.ok (.agg (fA fu sd)) w:=by kernel_rfl
theorem LS (fu sd:Int)(w:World):(Instr.box 62 (.agg (fA fu sd))).run Tryz.prog w=.ok (.pointer (some ⟨w.heap.size,0,none⟩)) (w.alloc (.cells (fA fu sd) 62)):=by kernel_rfl
def dz (fu sd:Int)(j:Nat):Value:=
 if j=0 then .slice none 0 0 else if j=1 then .int .i64 fu else if j=2 then .int .u64 sd else if j=3 then .slice none 0 0 else if j=4 then .slice none 0 0
 else if j=69 then .int .i64 0 else if j=70 then .int .i64 0 else if j=71 then .int .i64 0 else if j=72 then .int .i64 0 else if j=73 then .string ⟨#[]⟩else if j=74 then .bool false else .int .u8 0
theorem nh (fu sd:Int)(j:Nat)(hj:j<75):(fA fu sd)[j]?=some (dz fu sd j):=by
 unfold fA;by_cases h5:j<5
 ·rw[Array.getElem?_append_left (by simp;omega)]
  have:j=0∨j=1∨j=2∨j=3∨j=4:=by omega
  rcases this with rfl|rfl|rfl|rfl|rfl<;>rfl
 ·rw[Array.getElem?_append_right (by simp;omega)];have e5:(#[.slice none 0 0,.int .i64 fu,.int .u64 sd,.slice none 0 0,.slice none 0 0]:Array Value).size=5:=rfl;rw[e5];by_cases h69:j<69
  ·rw[Array.getElem?_append_left (by rw[Array.size_replicate];omega),Array.getElem?_replicate,if_pos (by omega)];unfold dz;rw[if_neg (by omega),if_neg (by omega),if_neg (by omega),if_neg (by omega),if_neg (by omega),if_neg (by omega),if_neg (by omega),if_neg (by omega),if_neg (by omega),if_neg (by omega),if_neg (by omega)]
  ·rw[Array.getElem?_append_right (by rw[Array.size_replicate];omega),Array.size_replicate]
   have:j=69∨j=70∨j=71∨j=72∨j=73∨j=74:=by omega
   rcases this with rfl|rfl|rfl|rfl|rfl|rfl<;>rfl
theorem JW {w w1:World}{g:PG}{Y b' cap':Nat}{aa:Int}(hY:w1.heap[Y]?=some (.cells (fA g.fuel aa) 62 (0,0)))(C:Laid w1 b' 0 g.L cap' g.c)(hb:Y<b')(hw:Y=w.heap.size)(h3:3≤w.heap.size):
  ∃d,DU (w1.setCell ⟨Y,0,none⟩ (.slice (some ⟨b',0,none⟩) g.L cap')) (fun k=>w.heap.size≤k∧k<w1.heap.size) Y d g (HS.zero aa):=by
 have hb2:=C.blk;have hc:∀j,j<75→w1.cell? ⟨Y,j,none⟩=some (dz g.fuel aa j):=fun j hj=>by
  rw[cell_of_row _ _ _ _ _ _ hY];exact nh _ _ j hj
 refine⟨⟨b',cap',fun j=>if j=0 then .slice (some ⟨b',0,none⟩) g.L cap' else dz g.fuel aa j,fun _=>[]⟩,?_,?_,rfl,?_⟩
 ·have hr:∀r,gS.row r=true→r=3∨r=4:=fun r h=>by simpa[gS]using h
  have hF:∀r,gS.row r=true→(if r=0 then Value.slice (some ⟨b',0,none⟩) g.L cap' else dz g.fuel aa r)=.slice none 0 0:=fun r h=>by rcases hr r h with rfl|rfl<;>rfl
  exact{
   cell:=fun j hj=>by
    by_cases e:j=0
    ·subst e;exact World.cell?_setCell_same _ _ _ (hc 0 (by omega))
    ·dsimp only;rw[if_neg e,World.cell?_setCell_other _ _ _ _ (fun c=>e (by injection c with _ c2 _;exact c2.symm))];exact hc j hj
   thaw:=fun j=>by rw[World.frozen?_setCell];exact frozen_of_row _ _ _ _ _ hY
   own:=fun r h=>by
    dsimp only;rw[hF r h]
    have:kE (HS.zero aa) r=0:=by rcases hr r h with rfl|rfl<;>rfl
    rw[this];exact World.ownsRow_nil _ _ _ _
   apart:=fun r s h _ _=>by left;dsimp only;rw[hF r h];rfl
   nM:=fun r h c=>by dsimp only at c;rw[hF r h]at c;cases c
   lt:=by rw[World.size_setCell];exact(Array.getElem?_eq_some_iff.1 hY).1
   Ek:=fun r h=>by show r<75;rcases hr r h with rfl|rfl<;>omega}
 ·intro j hj;dsimp only;by_cases e:j=0
  ·subst e;rfl
  ·rw[if_neg e];unfold ja;rw[if_neg e];unfold dz;rw[if_neg e];rfl
 ·have hO:∀k,iB gS Y (fun j=>if j=0 then Value.slice (some ⟨b',0,none⟩) g.L cap' else dz g.fuel aa j) k→k=Y:=fun k c=>by
   rcases c with c|⟨r,h,e⟩
   ·exact c
   ·have:r=3∨r=4:=by simpa[gS]using h
    rcases this with rfl|rfl<;>cases e
  exact⟨C.of_block (heap_setCell_other _ _ _ _ (by show b'≠Y;omega)),fun c=>by have:=hO _ c;dsimp only at this;omega,fun i k e=>by simp[HS.zero]at e,fun k c=>by have:=hO k c;have h2:=(Array.getElem?_eq_some_iff.1 hY).1;subst this;exact⟨by omega,h2⟩,⟨by show w.heap.size≤b';omega,hb2⟩,fun k hk=>by rw[World.size_setCell];exact hk.2,fun k hk=>by have:=hk.1;omega⟩
theorem zl (w:World)(cb co cap:Nat)(g:PG)(hL:g.L≤80)(C:Laid w cb co g.L cap g.c)(aa:Int)(h3:3≤w.heap.size):
  Calls Tryz.prog 81 #[.slice (some ⟨cb,co,none⟩) g.L cap,.int .u64 aa,.int .i64 g.fuel] w fun e w'=>e=.returned (.pointer (some ⟨w.heap.size,0,none⟩))∧Below w.heap.size w w'∧∃d,DU w' (fun k=>w.heap.size≤k∧k<w'.heap.size) w.heap.size d g (HS.zero aa):=by
 obtain⟨i,hi,hz0,hz1,hz2⟩:=lB
 have B0:Below w.heap.size w (w.alloc (.cells (fA g.fuel aa) 62)):=(Below.refl _ _).alloc (Nat.le_refl _) _;have hb0:=heap_alloc_new w (.cells (fA g.fuel aa) 62);have hz:(w.alloc (.cells (fA g.fuel aa) 62)).heap.size=w.heap.size+1:=by simp
 have c0:(w.alloc (.cells (fA g.fuel aa) 62)).cell? ⟨w.heap.size,0,none⟩=some (.slice none 0 0):=by rw[cell_of_row _ _ _ _ _ _ hb0];exact nh _ _ 0 (by omega)
 have f0:(w.alloc (.cells (fA g.fuel aa) 62)).frozen? ⟨w.heap.size,0,none⟩=false:=frozen_of_row _ _ _ _ _ hb0;have hcell:Hid (∀(j:Nat) (u:Value),(bM g.c g.L)[j]?=some u→(w.alloc (.cells (fA g.fuel aa) 62)).cell? ((⟨cb,co,none⟩:Addr).add j)=some u):=by
  intro j u hu;have hj:j<g.L:=by have:=(List.getElem?_eq_some_iff.1 hu).1;rw[j5]at this;exact this
  rw[j6 g.c hj]at hu;have ea:(⟨cb,co,none⟩:Addr).add j=⟨cb,co+j,none⟩:=by
   by_cases e:j=0
   ·subst e;simp[Addr.add]
   ·simp[Addr.add,e]
  rw[ea,B0.cell (p:=⟨cb,co+j,none⟩) C.blk,C.cell j hj];exact hu
 have hone:=qK g.c g.L;have hlen:=j5 g.c g.L;have hL0:=C.ny;have HF:Hid (∀v1 w1,w1.ownsRow (w.heap.size+1) 5 1 v1 g.L (bM g.c g.L)→(w.alloc (.cells (fA g.fuel aa) 62)).grownBy w1 (Value.ownBlock (.slice none 0 0))→∃b' cap',v1=.slice (some ⟨b',0,none⟩) g.L cap'∧w1.cell? ⟨w.heap.size,0,none⟩=some (.slice none 0 0)∧w1.frozen? ⟨w.heap.size,0,none⟩=false∧w.heap.size<w1.heap.size∧Below w.heap.size w (w1.setCell ⟨w.heap.size,0,none⟩ v1)∧∃d,DU (w1.setCell ⟨w.heap.size,0,none⟩ v1) (fun k=>w.heap.size≤k∧k<(w1.setCell ⟨w.heap.size,0,none⟩ v1).heap.size) w.heap.size d g (HS.zero aa)):=by
  intro v1 w1 ho hg
  obtain⟨b',cap',hv,hb,hnc,hcap,hcs⟩:=iG ho hL0
  subst hv;have hbw:w1.heap[w.heap.size]?=some (.cells (fA g.fuel aa) 62 (0,0)):=(hg.block _ (by omega) (by simp[Value.ownBlock])).trans hb0;have hsz:=hg.size;have C1:Laid w1 b' 0 g.L cap' g.c:=⟨fun i hi=>by rw[Nat.zero_add];exact hcs i _ (j6 g.c hi),hnc,by unfold maxLen at hcap;exact hcap,hL0⟩;have B1:Below w.heap.size w w1:=⟨hg.os.trans B0.os,hg.tape.trans B0.tape,hg.output.trans B0.output,by omega,fun k hk=>(hg.block k (by omega) (by simp[Value.ownBlock])).trans (B0.block k hk)⟩
  obtain⟨d,D⟩:=JW (w:=w) (aa:=aa) hbw C1 (by omega) rfl h3
  exact⟨b',cap',rfl,(by rw[cell_of_row _ _ _ _ _ _ hbw];exact nh _ _ 0 (by omega)),frozen_of_row _ _ _ _ _ hbw,by omega,B1.setCell (p:=⟨w.heap.size,0,none⟩) (Nat.le_refl _) _,d,by rw[World.size_setCell];exact D⟩
 clear B0 hb0 C;generalize bM g.c g.L=bl at*;generalize g.L=L at*;generalize g.fuel=fu at*;go_in;go_wp2_with(first|refine kR rfl 62 1 2 _ _ rfl (.int .i64 fu) (.int .u64 aa) rfl rfl (fA fu aa) (JV _ _) ?_|refine aF rfl 62 _ rfl (.agg (fA fu aa)) rfl (fA fu aa) (LS _ _) ?_|(at_builtin;refine wpList_append_own_at _ rfl (.tmp 16) (.tmp 17) 39 rfl (w.heap.size+1) 5 i (.int .u8 0) 1 1 Tryz.underlying39 hi hz0 hz1 hz2 rfl (by decide) _ 0 [] rfl (World.ownsRow_nil _ _ _ _) ⟨cb,co,none⟩ L cap bl rfl (by omega) hcell.out hone (by unfold maxLen;omega) (by omega) (by omega) ?_))
 intro v1 w1 ho hg _ _
 obtain⟨b',cap',rfl,c1,f1,hl1,hfin⟩:=HF.out v1 w1 ho hg
 have HFN:Hid _:=hfin;clear ho hg hfin HF;go_wp2;go_ret
 exact⟨rfl,HFN.out.1,HFN.out.2⟩
theorem ju (x:Int)(w:World):Calls Tryz.prog 16 #[.int .i64 x] w fun e w'=>e=.returned (.int .i64 x)∧w'=w:=by
 go_in;go_wp2;go_ret
 exact⟨rfl,rfl⟩
theorem gH.not {c:Nat→Int}{L:Nat}(h:gH c L true):¬gH c L false:=by
 intro k;rcases k with k|⟨r',hF',k⟩
 ·cases k.1
 rcases h with⟨_,hL,N,F⟩|⟨r,hF,h⟩
 ·have:=hF'.same (Or.inr ⟨hL,N,F.sp,Or.inr ⟨F.last,Or.inr ⟨F.ow,Or.inl ⟨rfl,rfl,F.DO⟩⟩⟩⟩)
  cases this.2
 ·rcases h with⟨_,N,F,hp⟩|⟨h,_⟩
  ·rcases k with⟨k,_⟩|⟨_,⟨r2,hF2⟩|⟨M,G,hp'⟩⟩
   ·cases k
   ·have:=hF2.same (Or.inr ⟨F.sp.most,N,F.sp,Or.inr ⟨F.last,Or.inr ⟨F.ow,Or.inl ⟨rfl,rfl,F.DO⟩⟩⟩⟩)
    cases this.2
   ·have:=F.sp.same F.last G.sp (Or.inl G.last)
    subst this;rw[hp]at hp';cases hp'
  ·cases h
theorem jR.can {c:Nat→Int}{L:Nat}{aY:Nat→Int}(h:jR c L aY):gH c L true:=by
 rcases h with⟨N,hL,F,_⟩|⟨N,r,hF,F,hp,_⟩
 ·exact Or.inl ⟨rfl,hL,N,F⟩
 ·exact Or.inr ⟨r,hF,Or.inl ⟨rfl,N,F,hp⟩⟩
theorem jR.same {c:Nat→Int}{L:Nat}{aY ent':Nat→Int}(h:jR c L aY)(k:jR c L ent'):aY=ent':=by
 rcases h with⟨N,hL,F,rfl⟩|⟨N,r,hF,F,hp,rfl⟩<;>rcases k with⟨M,kL,G,rfl⟩|⟨M,s,kF,G,kp,rfl⟩
 ·have:=F.sp.same F.last G.sp (Or.inl G.last)
  subst this;rfl
 ·have:=kF.same (Or.inr ⟨hL,N,F.sp,Or.inr ⟨F.last,Or.inr ⟨F.ow,Or.inl ⟨rfl,rfl,F.DO⟩⟩⟩⟩)
  cases this.2
 ·have:=hF.same (Or.inr ⟨kL,M,G.sp,Or.inr ⟨G.last,Or.inr ⟨G.ow,Or.inl ⟨rfl,rfl,G.DO⟩⟩⟩⟩)
  cases this.2
 ·have:=F.sp.same F.last G.sp (Or.inl G.last)
  subst this;rfl
theorem BN {c aY:Nat→Int}{fuel:Int}{ρ:RS}{n n0:Nat}(he:(after c aY fuel ρ n).σ.ended=true)(hN:∀m,m<n→(after c aY fuel ρ m).σ.ended=false)
  (he0:(after c aY fuel ρ n0).σ.ended=true)(hN0:∀m,m<n0→(after c aY fuel ρ m).σ.ended=false):n=n0:=by
 rcases Nat.lt_trichotomy n n0 with h|h|h
 ·rw[hN0 n h]at he;cases he
 ·exact h
 ·rw[hN n0 h]at he0;cases he0
def Kr (w:World)(e:Ending)(w':World)(r:Option RS)(k:Int):Prop:=
 Below w.heap.size w w'∧match r with
 |none=>(k=1∨k=2)∧e=refusal k
 |some τ=>k=0∧∃g,w.heap.size≤g∧w'.heap[g]?=some (.cells (fU τ.cnt 64).toArray 5 (0,0))∧e=.returned (.tuple #[.agg #[.int .i64 τ.σ.kind,.int .i64 τ.σ.fault,.int .i64 τ.σ.place,.string (strOfNums τ.σ.out),.int .i64 τ.σ.steps],.slice (some ⟨g,0,none⟩) 64 64,.int .i64 0])
theorem Hj {c:Nat→Int}{L:Nat}{input:ByteArray}{fuel:Int}{w w':World}{e:Ending}(h:sH c L input fuel w e w'):∃r k,Kr w e w' r k:=by
 rcases h with⟨_,he,hB⟩|⟨_,_,he,hB⟩|⟨_,aY,_,n,τ,_,_,_,hB,g,hg,hc,he⟩
 ·exact⟨none,1,hB,Or.inl rfl,he⟩
 ·exact⟨none,2,hB,Or.inr rfl,he⟩
 ·exact⟨some τ,0,hB,rfl,g,hg,hc,he⟩
theorem E7 {c:Nat→Int}{L:Nat}{input:ByteArray}{fuel:Int}{w w' v v':World}{e f:Ending}{r:Option RS}{k:Int}(h:sH c L input fuel w e w')(hA:Kr w e w' r k)(h2:sH c L input fuel v f v'):Kr v f v' r k:=by
 have key:(∃τ,r=some τ∧∃aY n,jR c L aY∧¬kj input fuel∧τ.cnt=(after c aY fuel (jm input) n).cnt∧True)∨True:=Or.inr trivial;clear key;rcases h with⟨hc1,he1,hB1⟩|⟨hc1,hb1,he1,hB1⟩|⟨hb1,aY,hent,n,τ,rfl,h1,h2',hB1,g,hg,hcv,he1⟩<;>rcases h2 with⟨hc2,he2,hB2⟩|⟨hc2,hb2,he2,hB2⟩|⟨hb2,ent2,hent2,n2,τ2,rfl,k1,k2,hB2,g2,hg2,hcv2,he2⟩
 ·refine⟨hB2,?_⟩
  cases r with
  |none=>
   obtain⟨hk,he⟩:=hA.2
   refine⟨hk,?_⟩
   rw[he1]at he
   have:k=1:=by
    unfold refusal at he;simp at he;exact he.symm
   rw[he2,this]
  |some τ=>
   obtain⟨_,g,_,_,he⟩:=hA.2
   rw[he1]at he;unfold refusal at he;simp at he
 ·exact absurd hc1 (gH.not hc2)
 ·exact absurd hc1 (gH.not hent2.can)
 ·exact absurd hc2 (gH.not hc1)
 ·refine⟨hB2,?_⟩
  cases r with
  |none=>
   obtain⟨hk,he⟩:=hA.2
   refine⟨hk,?_⟩
   rw[he1]at he
   have:k=2:=by
    unfold refusal at he;simp at he;exact he.symm
   rw[he2,this]
  |some τ=>
   obtain⟨_,g,_,_,he⟩:=hA.2
   rw[he1]at he;unfold refusal at he;simp at he
 ·exact absurd hb1 hb2
 ·exact absurd hc2 (gH.not hent.can)
 ·exact absurd hb2 hb1
 ·have:=hent.same hent2
  subst this
  have:=BN h1 h2' k1 k2
  subst this
  refine⟨hB2,?_⟩
  cases r with
  |none=>
   obtain⟨hk,he⟩:=hA.2
   rw[he1]at he;unfold refusal at he;simp at he
  |some τ=>
   obtain⟨hk,g',_,hc',he⟩:=hA.2
   refine⟨hk,g2,hg2,?_,?_⟩
   ·rw[he1]at he;simp at he;rw[hcv2]
    have:g=g':=he.2
    subst this;rw[hcv]at hc';simpa using hc'
   ·rw[he2];rw[he1]at he;simp at he
    obtain⟨⟨a1,a2,a3,a4,a5⟩,_⟩:=he
    rw[a1,a2,a3,a4,a5]
def J3 (cnt:Nat→Int):ByteArray:=strOfNums ((List.range 64).map fun i=>dU (cnt i))
theorem BO {w:World}{g:Nat}{cnt:Nat→Int}(hh:w.heap[g]?=some (.cells (fU cnt 64).toArray 5 (0,0))):
  (convert 39 9 (.slice (some ⟨g,0,none⟩) 64 64)).run Tryz.prog w=.ok (.string (J3 cnt)) w:=by
 refine run_convert_bytes_arg w 39 5 Tryz.underlying39 Tryz.underlying5 g 0 64 64 ((List.range 64).map fun i=>dU (cnt i)) (by simp) (fun i hi=> ?_) 9 Tryz.underlying9;have hi':i<64:=by simpa using hi
 rw[Nat.zero_add,cell_of_row w g _ _ _ _ hh,List.getElem?_toArray,jN cnt 64 i hi',if_pos hi'];simp[List.getD,List.getElem?_range hi']
theorem BP (w:World):(convert 39 9 (.slice none 0 0)).run Tryz.prog w=.ok (.string ByteArray.empty) w:=
 run_convert_bytes_nil w 39 5 Tryz.underlying39 Tryz.underlying5 0 0 9 Tryz.underlying9
theorem eW {w w':World}{base:Nat}{e:TypeId}{size:Nat}{v:Value}{n:Nat}{xs:List Value}(h:w.ownsRow base e size v n xs)(hb:∀g,v.ownBlock=some g→w'.heap[g]?=w.heap[g]?):w'.ownsRow base e size v n xs:=by
 refine⟨h.1,?_⟩
 rcases h.2 with hn|⟨g,cap,cur,hv,hg,hh,q⟩
 ·exact .inl hn
 ·exact .inr ⟨g,cap,cur,hv,hg,(hb g (by rw[hv];rfl)).trans hh,q⟩
theorem Hl {w:World}{base g:Nat}{cnt:Nat→Int}(hh:w.heap[g]?=some (.cells (fU cnt 64).toArray 5 (0,0)))(hg:base≤g):w.ownsRow base 5 1 (.slice (some ⟨g,0,none⟩) 64 64) 64 (fU cnt 64):=
 ⟨by rw[jM],.inr ⟨g,64,_,rfl,hg,hh,by omega,by unfold maxLen;omega,by simp[jM],List.take_of_length_le (by show(fU cnt 64).length≤64*1;rw[jM];omega)⟩⟩
theorem j7 {w:World}{base g L cap:Nat}{c:Nat→Int}(h:w.ownsRow base 5 1 (.slice (some ⟨g,0,none⟩) (L+8) cap) (L+8) (bM (dF c L) (L+8))):b9 w (.slice (some ⟨g,0,none⟩) L cap) L c∧L+8≤cap∧cap≤9223372036854775807:=by
 rcases h.2 with⟨hv,_⟩|⟨g',cap',cur,hv,_,hh,hle,hcap,_,_⟩
 ·cases hv
 ·simp only[Value.slice.injEq,Option.some.injEq,Addr.mk.injEq,and_true,true_and]at hv
  obtain⟨rfl,rfl⟩:=hv
  refine⟨?_,hle,by unfold maxLen at hcap;omega⟩
  by_cases h0:L=0
  ·subst h0;exact .bare _ cap rfl rfl
  ·refine .full g 0 cap rfl ⟨fun i hi=> ?_,by omega,by unfold maxLen at hcap;omega,by omega⟩;rw[Nat.zero_add,h.cellAt i (by omega),j6 _ (by omega)];unfold dF;rw[if_pos hi]
def dw (kd p n f:Int)(cv:Value)(s t:ByteArray)(sd:Int)(fv:Value):Array Value:=#[.int .i64 kd,.int .i64 p,.int .i64 n,.int .i64 f,cv,.string s,.string t,.int .u64 sd,fv]
theorem gI (kd p n f:Int)(a:Option Addr)(l c:Nat)(s t:ByteArray)(sd:Int)(b:Option Addr)(k e:Nat)(w:World):
  (Instr.box 43 (.agg (dw kd p n f (.slice a l c) s t sd (.slice b k e)))).run Tryz.prog w=.ok (.pointer (some ⟨w.heap.size,0,none⟩)) (w.alloc (.cells (dw kd p n f (.slice a l c) s t sd (.slice b k e)) 43)):=by kernel_rfl
theorem b9.form {w:World}{v:Value}{L:Nat}{c:Nat→Int}(h:b9 w v L c):∃p cap,v=.slice p L cap:=by
 cases h with
 |full cb co cap hv C=>exact ⟨_,_,hv⟩
 |bare p cap hv hL=>exact ⟨p,cap,by rw[hv,hL]⟩
theorem b9.blk {w:World}{v:Value}{L:Nat}{c:Nat→Int}(h:b9 w v L c)(hL:0<L){g:Nat}(hg:w.heap.size≤g):v.ownBlock≠some g:=by
 cases h with
 |full cb co cap hv C=>
  rw[hv];intro e
  have:cb=g:=by simpa[Value.ownBlock]using e
  have:=C.blk
  omega
 |bare p cap hv hL=>omega
def gu (f:Nat→Value)(k:Nat):List Value:=(List.range k).map f
theorem ia (f:Nat→Value)(k:Nat):(gu f k).length=k:=by simp[gu]
theorem qj (f:Nat→Value){k j:Nat}(h:j<k):(gu f k)[j]?=some (f j):=by simp[gu,List.getElem?_range h]
theorem JN {f:Nat→Value}{l:List Value}{k:Nat}(h:∀j,j<k→l[j]?=some (f j)):l.take k=gu f k:=by
 apply List.ext_getElem?;intro j;rw[List.getElem?_take];by_cases c:j<k
 ·rw[if_pos c,h j c,qj f c]
 ·rw[if_neg c,List.getElem?_eq_none (by rw[ia];omega)]
theorem uv (f:Nat→Value)(a b:Nat):gu f a++gu (fun i=>f (a+i)) b=gu f (a+b):=by
 unfold gu;rw[List.range_add,List.map_append,List.map_map];rfl
section
variable {P:Program} (w:World)
theorem Hv (f:Nat→Value)(t ty e:TypeId)(i:TypeInfo)(z:Value)(s bytes:Nat)(ht:P.underlying t=some (.slice e))(hi:P.info? e=some i)(hz:i.zero=some z)
  (hsize:i.size=s)(hby:i.bytes=bytes)(hzs:z.cells.size=s)(hs0:0<s)
  (v:Value)(n:Nat)(hown:w.ownsRow 0 e s v n (gu f (n*s)))
  (a:Addr)(m c:Nat)(hnews:∀j u,(gu (fun i=>f (n*s+i)) (m*s))[j]?=some u→w.cell? (a.add j)=some u)(h1:∀u∈gu (fun i=>f (n*s+i)) (m*s),u.oneCell'=true)
  (h63:n+m≤maxLen)(hbytes:(n+m)*bytes≤140737488355328)(hm:0<m):
  ∃v' w',(Builtin.append_ #[t,t] ty #[v,.slice (some a) m c]).run P w=.ok v' w'∧w'.ownsRow 0 e s v' (n+m) (gu f ((n+m)*s))∧w.grownBy w' v.ownBlock∧(v'.ownBlock=v.ownBlock∨v'.ownBlock=some w.heap.size)∧
   ∀u k,w.ownsRow 0 e s u k (gu f (k*s))→w'.ownsRow 0 e s u k (gu f (k*s)):=by
 have hl:(gu (fun i=>f (n*s+i)) (m*s)).length=m*s:=ia _ _
 obtain⟨v',w',hr,h2,h3,_,h5⟩:=run_append_own_at (P:=P) w 0 t ty e i z s bytes ht hi hz hsize hby hzs hs0 v n _ hown a m c _ hl hnews h1 h63 hbytes (Nat.zero_le _)
 rw[uv,←Nat.add_mul]at h2
 refine⟨v',w',hr,h2,h3,h5,fun u k hu=> ?_⟩
 have new:∀o,w'=w.drew.alloc o→w'.ownsRow 0 e s u k (gu f (k*s)):=fun o e=>by
  subst e;exact ay hu (fun b hb=>Below.heap_alloc w.drew o b (aL hu hb))
 have hm63:n+m≤9223372036854775807:=by simp only[maxLen]at h63;omega
 rcases hown.2 with⟨rfl,rfl⟩|⟨g,cap,cur,rfl,_,hg,hnc,_,hcs,htake⟩
 ·have hr':=run_append_nil (P:=P) w t ty e i z ht hi hz a m c _ (by rw[hsize];exact hl) hnews (by omega) (by omega) (by have hb:=hbytes;rw[←hby]at hb;simp only[Nat.zero_add]at hb;omega);rw[hr]at hr';injection hr' with _ hw2;exact new _ hw2
 by_cases hroom:n+m≤cap
 ·have hms:=Nat.mul_le_mul_right s hroom;rw[Nat.add_mul]at hms;have hr':=run_append_room (P:=P) w t ty e i ht hi g n cap cur hg a m c _ (by rw[hsize];exact hl) hnews h1 hroom (by rw[hsize,hcs,hl];exact hms);rw[hr]at hr';injection hr' with _ hw2;by_cases hv:u.ownBlock=some g
  ·rcases hu.2 with hu0|⟨g',cap',cur',rfl,hbg,hg',hnc',hcm',hcs',htake'⟩
   ·exact⟨hu.1,Or.inl hu0⟩
   obtain rfl:g'=g:=by simpa[Value.ownBlock]using hv
   rw[hg]at hg';obtain rfl:cur=cur':=by injection hg' with q;injection q
   have hh:=setRow_heap w g' cur (cur.toList.take (n*i.size)++gu (fun i=>f (n*s+i)) (m*s)++cur.toList.drop (n*i.size+(gu (fun i=>f (n*s+i)) (m*s)).length)).toArray e (0,0) hg;rw[←hw2]at hh;rw[hsize,htake,hl,uv]at hh;have hsz:(gu f (n*s+m*s)++cur.toList.drop (n*s+m*s)).length=cap'*s:=by
    rw[List.length_append,ia,List.length_drop,Array.length_toList,←hcs',hcs];omega
   refine⟨hu.1,Or.inr ⟨g',cap',_,rfl,hbg,hh,hnc',hcm',by rw[List.size_toArray];exact hsz,JN (fun j hj=> ?_)⟩⟩
   show(gu f (n*s+m*s)++cur.toList.drop (n*s+m*s))[j]?=_
   by_cases c1:j<n*s+m*s
   ·rw[List.getElem?_append_left (by rw[ia];exact c1),qj f c1]
   ·rw[List.getElem?_append_right (by rw[ia];omega),ia,List.getElem?_drop,show n*s+m*s+(j-(n*s+m*s))=j by omega]
    have:=congrArg (fun l=>l[j]?) htake'
    simpa[List.getElem?_take,hj,qj f hj]using this
  ·exact ay hu (fun b hb=>h3.block b (aL hu hb) (fun c=>hv (by rw[hb,←c.symm];rfl)))
 ·have hr':=run_append_grow (P:=P) w t ty e i z ht hi hz ⟨g,0,none⟩ n cap _ (by rw[hsize];exact hown.1) (hown.cells (g:=g) rfl) a m c _ (by rw[hsize];exact hl) hnews (by omega) (by omega) (growslice_fits (by omega) (by rw[hby];exact hbytes));rw[hr]at hr';injection hr' with _ hw2;exact new _ hw2
end
structure AP (w0 w:World) (e:TypeId) (s:Nat) (f:Nat→Value) (v:Value) (n:Nat) (us:List Value):Prop where
 row:w.ownsRow 0 e s v n (gu f (n*s))
 grown:w0.grownBy w v.ownBlock
 all:∀u∈us,(∃k,w.ownsRow 0 e s u k (gu f (k*s)))∧∀g,u.ownBlock=some g→v.ownBlock=some g∨w0.heap.size≤g
theorem AP.alloc {w0 w:World}{e:TypeId}{s:Nat}{f:Nat→Value}{v:Value}{n:Nat}{us:List Value}(h:AP w0 w e s f v n us)(o:Obj):AP w0 (w.alloc o) e s f v n us where
 row:=h.row.alloc o
 grown:=World.grownBy.trans' h.grown ⟨rfl,rfl,rfl,by simp,fun k hk _=>Below.heap_alloc w o k hk⟩
 all:=fun u hu=>⟨(h.all u hu).1.elim fun k r=>⟨k,r.alloc o⟩,(h.all u hu).2⟩
theorem AP.drew {w0 w:World}{e:TypeId}{s:Nat}{f:Nat→Value}{v:Value}{n:Nat}{us:List Value}(h:AP w0 w e s f v n us):AP w0 w.drew e s f v n us:=⟨h.row,⟨h.grown.os,h.grown.tape,h.grown.output,h.grown.size,h.grown.block⟩,h.all⟩
theorem cO {P:Program}{w w0:World}{ops:Array Oper}{rest:List Oper}{o:Oper}{a:Act}{Q:Exit→Act→World→Prop}(hgd:o.guard=none)(s x:Operand)(t:TypeId)
  (ho:o.op=.call {callee:=.builtin .append,args:=#[s,x],argTypes:=#[t,t]})
  (e:TypeId)(i:TypeInfo)(z:Value)(sz bytes:Nat)(ht:P.underlying t=some (.slice e))(hi:P.info? e=some i)(hz:i.zero=some z)
  (hsize:i.size=sz)(hby:i.bytes=bytes)(hzs:z.cells.size=sz)(hs0:0<sz)(f:Nat→Value)(v:Value)(n:Nat)(us:List Value)(hs:a.eval s=v)(A:AP w0 w e sz f v n us)
  (ad:Addr)(m c:Nat)(hx:a.eval x=.slice (some ad) m c)(hnews:∀j u,(gu (fun i=>f (n*sz+i)) (m*sz))[j]?=some u→w.cell? (ad.add j)=some u)(h1:∀u∈gu (fun i=>f (n*sz+i)) (m*sz),u.oneCell'=true)
  (h63:n+m≤maxLen)(hbytes:(n+m)*bytes≤140737488355328)(hm:0<m)
  (h:∀g cap w',AP w0 w' e sz f v n (us++[.slice (some ⟨g,0,none⟩) (n+m) cap])→w.heap.size≤w'.heap.size→wpList P ops Q rest (a.put o.dst (.slice (some ⟨g,0,none⟩) (n+m) cap)) w'):
  wpList P ops Q (o::rest) a w:=by
 refine wpList_plain hgd fun K hK=> ?_
 obtain⟨v',w',hr,h2,h3,h4,h5⟩:=Hv (P:=P) w f t o.type e i z sz bytes ht hi hz hsize hby hzs hs0 v n A.row ad m c hnews h1 h63 hbytes hm
 obtain⟨g,cap,rfl⟩:=aB h2 (by omega)
 unfold Oper.wp execOp;simp only[ho,resolve,invoke,builtin,Sem.run_bind,Sem.run_pure,Result.andThen_ok,List.map_toArray,List.map_cons,List.map_nil,hs,hx,hr];refine hK _ _ (h g cap w' ⟨h5 _ _ A.row,World.grownBy.trans' A.grown h3,fun u hu=> ?_⟩ h3.size);rcases List.mem_append.1 hu with c|c
 ·exact⟨(A.all u c).1.elim fun k r=>⟨k,h5 u k r⟩,(A.all u c).2⟩
 ·obtain rfl:=List.mem_singleton.1 c
  refine⟨⟨_,h2⟩,fun b hb=> ?_⟩
  rcases h4 with q|q
  ·exact Or.inl (by rw[←q];exact hb)
  ·rw[q]at hb;injection hb with hb;exact Or.inr (by have:=A.grown.size;omega)
end Go.Proofs.YtmpgjkhchfcjlaaGreatDoor
