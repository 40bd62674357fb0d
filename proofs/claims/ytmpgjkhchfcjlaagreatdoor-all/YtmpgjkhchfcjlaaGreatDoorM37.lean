import Derived.Test.YtmpgjkhchfcjlaaGreatDoorM33
namespace Go.Proofs.YtmpgjkhchfcjlaaGreatDoor
open Go.RowKit
set_option maxRecDepth 100000
set_option maxHeartbeats 8000000
structure TR (base:Nat) (w:World) (vo vf:Value) (cs fs:List Int):Prop where
 bI:w.ownsRow base 5 1 vo cs.length (cs.map (Value.int .u8))
 bR:w.ownsRow base 3 1 vf fs.length (fs.map (Value.int .i64))
 apart:vo.ownBlock=none∨vo.ownBlock≠vf.ownBlock
 le:base≤w.heap.size
theorem TR.o5 {base:Nat}{w w1:World}{vo vf v':Value}{cs fs:List Int}(h:TR base w vo vf cs fs)(o:Obj)(ns:List Int){k:Nat}{xs:List Value}(ho:w1.ownsRow base 5 1 v' k xs)(hk:k=(cs++ns).length)(hx:xs=(cs++ns).map (Value.int .u8))
  (hg:(w.alloc o).grownBy w1 vo.ownBlock)(hat:v'.ownBlock=vo.ownBlock∨v'.ownBlock=some (w.heap.size+1)):TR base w1 v' vf (cs++ns) fs∧Below base w w1:=by
 subst hk hx;have hs:=hg.size;simp at hs;have hle:=h.le;have key:∀g,vf.ownBlock=some g→some g≠vo.ownBlock∧g<w.heap.size:=fun g e=>⟨fun c=>by
  rcases h.apart with a|a
  ·rw[a]at c;cases c
  ·exact a (by rw[←c,e]),(h.bR.lt g e).2⟩
 refine⟨⟨ho,eW h.bR (fun g e=> ?_),?_,by omega⟩,?_⟩
 ·rw[hg.block g (by have:=(key g e).2;simp;omega) (key g e).1,Below.heap_alloc w o g (key g e).2]
 ·rcases hat with e|e
  ·rw[e];exact h.apart
  ·right;rw[e];intro c
   have:=(key _ c.symm).2
   omega
 ·refine⟨hg.os,hg.tape,hg.output,by omega,fun j hj=> ?_⟩
  rw[hg.block j (by simp;omega) (fun c=>by have:=(h.bI.lt j c.symm).1;omega),Below.heap_alloc w o j (by omega)]
theorem TR.o8 {base:Nat}{w w1:World}{vo vf v':Value}{cs fs:List Int}(h:TR base w vo vf cs fs)(o:Obj)(ns:List Int){k:Nat}{xs:List Value}(ho:w1.ownsRow base 3 1 v' k xs)(hk:k=(fs++ns).length)(hx:xs=(fs++ns).map (Value.int .i64))
  (hg:(w.alloc o).grownBy w1 vf.ownBlock)(hat:v'.ownBlock=vf.ownBlock∨v'.ownBlock=some (w.heap.size+1)):TR base w1 vo v' cs (fs++ns)∧Below base w w1:=by
 subst hk hx;have hs:=hg.size;simp at hs;have hle:=h.le;have key:∀g,vo.ownBlock=some g→some g≠vf.ownBlock∧g<w.heap.size:=fun g e=>⟨fun c=>by
  rcases h.apart with a|a
  ·rw[a]at e;cases e
  ·exact a (by rw[e,c]),(h.bI.lt g e).2⟩
 refine⟨⟨eW h.bI (fun g e=> ?_),ho,?_,by omega⟩,?_⟩
 ·rw[hg.block g (by have:=(key g e).2;simp;omega) (key g e).1,Below.heap_alloc w o g (key g e).2]
 ·cases hb:vo.ownBlock with
  |none=>exact Or.inl rfl
  |some g=>
   right;rcases hat with e|e
   ·rw[e];exact(key g hb).1
   ·rw[e];intro c
    have:=(key g hb).2
    have:=Option.some.inj c
    omega
 ·refine⟨hg.os,hg.tape,hg.output,by omega,fun j hj=> ?_⟩
  rw[hg.block j (by simp;omega) (fun c=>by have:=(h.bR.lt j c.symm).1;omega),Below.heap_alloc w o j (by omega)]
theorem Bb {w:World}{base:Nat}{e:TypeId}{v:Value}{n m:Nat}{xs:List Value}(h:w.ownsRow base e 1 v n xs)(q:n=m):w.ownsRow base e 1 v m xs:=q▸h
def Iy (c:Nat→Int)(N L:Nat)(w:World)(e:Ending)(w':World):Prop:=∃base vo vf,w.heap.size≤base∧TR base w' vo vf (bL c N L) (bf c N L)∧e=.returned (.tuple #[vo,vf,.int .i64 0])∧Below w.heap.size w w'
structure P1 (base:Nat) (w2 wr:World) (vo vf:Value) (c:Nat→Int) (N p:Nat):Prop where
 rows:TR base wr vo vf (dS (aT c N) c p) (bf c N p)
 below:Below base w2 wr
theorem rL (w:World)(cb co L cap N:Nat)(c:Nat→Int)(F:gq c L N 19)(hL:L≤80)(hby:∀i,i<L→0≤c i∧c i≤255)(C:Laid w cb co L cap c):
  Calls Tryz.prog 21 #[.slice (some ⟨cb,co,none⟩) L cap] w (Iy c N L w):=by
 obtain⟨iu,hiu,hzu0,hzu1,hzu2⟩:=info_parts Tryz.kf
 obtain⟨ii,hii,hzi0,hzi1,hzi2⟩:=info_parts Tryz.gw
 have V:=F.vp hL;have hroom:=C.room;have hroom':=C.room';have hq80:=V.xM;have hL0:=F.pos;have HW:Hid (Calls Tryz.prog 58 #[.slice (some ⟨cb,co,none⟩) L cap,.int .i64 80,.bool false] w fun e w'=>e=.returned (.int .i64 (-1))∧Below w.heap.size w w'):=by
  refine(oV w cb co L cap 80 c false (by omega) hby C).mono ?_
  rintro e w' ⟨r,b,hf,rfl,hB⟩
  refine⟨?_,hB⟩
  have hf2:cZ c L 80 19 0 false:=Or.inr ⟨hL,N,F.sp,Or.inr ⟨F.last,Or.inr ⟨F.ow,Or.inl ⟨rfl,rfl,fun m hm=>F.DO m hm⟩⟩⟩⟩
  obtain⟨_,rfl⟩:=hf.same hf2
  rfl
 have HBL:Hid (∀w1,Below w.heap.size w w1→Calls Tryz.prog 59 #[.slice (some ⟨cb,co,none⟩) L cap] w1 fun e w'=>∃v,w'.ownsRow w1.heap.size 3 1 v (bq c N N) (kV c N N)∧e=.returned v∧Below w1.heap.size w1 w'):=fun w1 hB=>
  l8 w1 cb co L cap N c (F.sp.more (by omega) (by omega)) F.last (C.below hB)
 have hcb:=C.blk;have HC:=hid C;have HF:=hid F;have HV:=hid V;have HBY:=hid hby
 clear C F V hby
 go_in;go_wp2_with fail
 refine HW.out.mono ?_;rintro _ w1 ⟨rfl,B1⟩;have HB1:=hid B1;have hz1:=B1.size;clear B1 HW;go_wp2_with fail
 refine(HBL.out w1 HB1.out).mono ?_
 rintro _ w2 ⟨vb,hob,rfl,B2⟩;have hz2:=B2.size;have HB2:=hid (HB1.out.trans (B2.mono hz1));have hn240:bq c N N≤240:=by
  have:=qf c N N
  have:=HF.out.sp.count
  omega
 have hbN:gO w2 vb (bq c N N) (Kt c N):=by
  by_cases h0:0<bq c N N
  ·obtain⟨g,cp,rfl,_,hr,hm,hc⟩:=iG hob h0
   refine .full g 0 cp rfl (fun i hi=> ?_) hr hm h0;rw[Nat.zero_add]
   obtain⟨_,_,_,h,_⟩:=zV hi
   exact hc i _ h
  ·rcases hob.2 with⟨e,_⟩|⟨g,cp,cur,e,_⟩
   ·exact .bare none 0 e (by omega)
   ·exact .bare _ _ (by rw[e];congr 1;omega) (by omega)
 have HPL:Hid (∀wr,Below w2.heap.size w2 wr→∀p:Nat,Calls Tryz.prog 60 #[vb,.int .i64 (p:Int)] wr fun e w'=>w'=wr∧e=.returned (.int .i64 (if aT c N p then(cK (aT c N) p:Int)else -1))):=fun wr hB p=>by
  refine(oQ wr vb _ _ (hbN.keep fun g _ hlt=>hB.block g hlt) (by omega) (p:Int)).mono ?_
  rintro e w' ⟨rfl,r,hr,rfl⟩
  exact⟨rfl,by rw[xN HF.out hL hr]⟩
 obtain⟨pb,capb,rfl⟩:∃p cp,vb=.slice p (bq c N N) cp:=by
  cases hbN with
  |full g o cp hv _ _ _ _=>exact ⟨_,_,hv⟩
  |bare p cp hv hL=>exact ⟨p,cp,by rw[hv,hL]⟩
 have HC2:Hid (∀wr,Below w2.heap.size w2 wr→∀p,p<L→wr.cell? ⟨cb,co+p,none⟩=some (.int .u8 (c p))):=fun wr hB p hp=>((HC.out.below HB2.out).below hB).cell p hp
 have hcb2:cb<w2.heap.size:=by omega
 clear hob hbN B2 HBL HB1;go_wp2_with fail
 go_loopw [7,8,9] (fun out from' i wr=>∃(p:Nat) (vo vf:Value),p≤L∧out=vo∧from'=vf∧i=.int .i64 p∧P1 w2.heap.size w2 wr vo vf c N p) (fun _ _ i _=>L-(intOf i).toNat)
 case atStart=>exact ⟨0,_,_,by omega,rfl,rfl,rfl,⟨⟨World.ownsRow_nil _ _ _ _,World.ownsRow_nil _ _ _ _,Or.inl rfl,Nat.le_refl _⟩,Below.refl _ _⟩⟩
 case round=>
  obtain⟨p,vo,vf,hp,ho7,hf8,rfl,hP⟩:=hrel
  subst ho7 hf8;have HP:=hid hP;have hrs:=hP.below.size;clear hP;by_cases hpL:p<L
  ·have ck:=HC2.out wr HP.out.below p hpL;have hi1:(p:Int)<(L:Int):=(by omega);have hcbr:cb<wr.heap.size:=(by omega);have hqp:fG (aT c N) (p+1)≤240:=by have:=zT (f:=aT c N) (p:=p+1) (r:=L) (by omega);omega
   have hq1:=kO (aT c N) p;have hq2:=uU (aT c N) p;have hcl:=gW (aT c N) c p;have hfl:=cr c N p;have HT:=HP.out.rows
   cases hb:aT c N p with
   |false=>
    have hPL:=HPL.out wr HP.out.below p;rw[hb]at hPL;have HPp:=hid hPL;have HEND:Hid (∀(w6:World) (vo6 vf6:Value),TR w2.heap.size w6 vo6 vf6 (dS (aT c N) c p++[c p]) (bf c N p++[(p:Int)])→Below w2.heap.size wr w6→P1 w2.heap.size w2 w6 vo6 vf6 c N (p+1)):=fun w6 vo6 vf6 h6 b6=>by
     refine⟨?_,HP.out.below.trans b6⟩
     unfold dS bf;rw[hb];exact h6
    have HO:Hid (wr.ownsRow w2.heap.size 5 1 u7 (fG (aT c N) p) ((dS (aT c N) c p).map (Value.int .u8))):=by have:=HT.bI;rw[hcl]at this;exact this
    have HTR:=hid HT;have HLC:Hid ((dS (aT c N) c p).length=fG (aT c N) p∧(bf c N p).length=fG (aT c N) p):=⟨hcl,hfl⟩;clear hPL HT hcl hfl hb;generalize dS (aT c N) c p=cs at*;generalize bf c N p=fs at*;generalize fG (aT c N) p=q at*;generalize c p=y at*;go_wp2_with fail
    refine HPp.out.mono ?_;rintro _ w' ⟨hw',rfl⟩;obtain rfl:=hw'.symm;go_wp2_with(at_builtin;refine wpList_append_own_at _ rfl (.tmp 41) (.tmp 46) 39 rfl w2.heap.size 5 iu (.int .u8 0) 1 1 Tryz.underlying39 hiu hzu0 hzu1 hzu2 rfl (by decide) _ (q) _ rfl (HO.out.alloc _) ⟨_,0,none⟩ 1 1 [.int .u8 y] rfl rfl (cell_one_new _ _ _) ?c2 (by unfold maxLen;omega) (by omega) (by simp;omega) ?_)
    case c2=>first|rfl|exact⟨rfl,rfl⟩|(intro u hu;simp at hu;subst hu;rfl)|(intro u hu;simp at hu;rcases hu with rfl|rfl<;>rfl)
    intro v1 w4 ho1 hg1 _ hat1
    obtain⟨g1,k1,rfl⟩:=aB ho1 (by omega)
    have T1:=HTR.out.o5 (.cells #[.int .u8 y] 5) [y] ho1 (by simp[HLC.out.1]) (by simp) hg1 hat1;have HT1:=hid T1.1;have HB1b:=hid T1.2;have hs1b:=T1.1.le;have HO1:Hid (w4.ownsRow w2.heap.size 3 1 u8 (q) ((fs).map (Value.int .i64))):=Bb T1.1.bR (by simp[HLC.out.2]);have hsz1:wr.heap.size≤w4.heap.size:=by have:=hg1.size;simp at this;omega
    clear T1 ho1 hg1 hat1;go_wp2_with(at_builtin;refine wpList_append_own_at _ rfl (.tmp 48) (.tmp 50) 32 rfl w2.heap.size 3 ii (.int .i64 0) 1 8 Tryz.underlying32 hii hzi0 hzi1 hzi2 rfl (by decide) _ (q) _ rfl (HO1.out.alloc _) ⟨_,0,none⟩ 1 1 [.int .i64 (p:Int)] rfl rfl (cell_one_new _ _ _) ?c2 (by unfold maxLen;omega) (by omega) (by simp;omega) ?_)
    case c2=>first|rfl|exact⟨rfl,rfl⟩|(intro u hu;simp at hu;subst hu;rfl)|(intro u hu;simp at hu;rcases hu with rfl|rfl<;>rfl)
    intro v2 w5 ho2 hg2 _ hat2
    obtain⟨g2,k2,rfl⟩:=aB ho2 (by omega)
    have T2:=HT1.out.o8 (.cells #[.int .i64 (p:Int)] 3) [(p:Int)] ho2 (by simp[HLC.out.2]) (by simp) hg2 hat2;have HT2:=hid T2.1;have HB2b:=hid (HB1b.out.trans T2.2);have hs2b:=T2.1.le;have hsz2:w4.heap.size≤w5.heap.size:=by have:=hg2.size;simp at this;omega
    clear T2 ho2 hg2 hat2;have HZ:Hid (P1 w2.heap.size w2 w5 (.slice (some ⟨g1,0,none⟩) (q+1) k1) (.slice (some ⟨g2,0,none⟩) (q+1) k2) c N (p+1)):=HEND.out w5 _ _ HT2.out HB2b.out;clear HEND HT1 HT2 HB1b HB2b HO HO1 HTR HLC;go_wp2_with fail
    go_roundw
    case rel=>exact ⟨p+1,_,_,by omega,rfl,rfl,by go_num,HZ.out⟩
    case measure=>simp [intOf];omega
   |true=>
    have hPL:=HPL.out wr HP.out.below p;rw[hb]at hPL;have hcp:=zU (aT c N) p;have HPp:=hid hPL;have HEND:Hid (∀(w6:World) (vo6 vf6:Value),TR w2.heap.size w6 vo6 vf6 (dS (aT c N) c p++[20,(cK (aT c N) p:Int)]++[c p]) (bf c N p++[-1,-1]++[(p:Int)])→Below w2.heap.size wr w6→P1 w2.heap.size w2 w6 vo6 vf6 c N (p+1)):=fun w6 vo6 vf6 h6 b6=>by
     refine⟨?_,HP.out.below.trans b6⟩
     unfold dS bf;rw[hb,if_pos rfl,if_pos rfl,←List.append_assoc,←List.append_assoc];exact h6
    have HO:Hid (wr.ownsRow w2.heap.size 5 1 u7 (fG (aT c N) p) ((dS (aT c N) c p).map (Value.int .u8))):=by have:=HT.bI;rw[hcl]at this;exact this
    have HTR:=hid HT;have HLC:Hid ((dS (aT c N) c p).length=fG (aT c N) p∧(bf c N p).length=fG (aT c N) p):=⟨hcl,hfl⟩;have hr2:=nZ hb;have hwk:IntKind.u8.wrap (cK (aT c N) p:Int)=(cK (aT c N) p:Int):=qo (by omega) (by omega);clear hPL HT hcl hfl hb;generalize cK (aT c N) p=kk at*;generalize dS (aT c N) c p=cs at*;generalize bf c N p=fs at*;generalize fG (aT c N) p=q at*;generalize c p=y at*;go_wp2_with fail
    refine HPp.out.mono ?_;rintro _ w' ⟨hw',rfl⟩;obtain rfl:=hw'.symm;go_wp2_with(at_builtin;refine wpList_append_own_at _ rfl (.tmp 33) (.tmp 36) 39 rfl w2.heap.size 5 iu (.int .u8 0) 1 1 Tryz.underlying39 hiu hzu0 hzu1 hzu2 rfl (by decide) _ (q) _ rfl (HO.out.alloc _) ⟨_,0,none⟩ 2 2 [.int .u8 20,.int .u8 (kk:Int)] rfl rfl (cG _ _ _) ?c2 (by unfold maxLen;omega) (by omega) (by simp;omega) ?_)
    case c2=>first|rfl|exact⟨rfl,rfl⟩|(intro u hu;simp at hu;subst hu;rfl)|(intro u hu;simp at hu;rcases hu with rfl|rfl<;>rfl)
    intro v1 w4 ho1 hg1 _ hat1
    obtain⟨g1,k1,rfl⟩:=aB ho1 (by omega)
    have T1:=HTR.out.o5 (.cells #[.int .u8 20,.int .u8 (kk:Int)] 5) [20,(kk:Int)] ho1 (by simp[HLC.out.1]) (by simp) hg1 hat1;have HT1:=hid T1.1;have HB1b:=hid T1.2;have hs1b:=T1.1.le;have HO1:Hid (w4.ownsRow w2.heap.size 3 1 u8 (q) ((fs).map (Value.int .i64))):=Bb T1.1.bR (by simp[HLC.out.2]);have hsz1:wr.heap.size≤w4.heap.size:=by have:=hg1.size;simp at this;omega
    clear T1 ho1 hg1 hat1;go_wp2_with(at_builtin;refine wpList_append_own_at _ rfl (.tmp 38) (.tmp 39) 32 rfl w2.heap.size 3 ii (.int .i64 0) 1 8 Tryz.underlying32 hii hzi0 hzi1 hzi2 rfl (by decide) _ (q) _ rfl (HO1.out.alloc _) ⟨_,0,none⟩ 2 2 [.int .i64 (-1),.int .i64 (-1)] rfl rfl (cG _ _ _) ?c2 (by unfold maxLen;omega) (by omega) (by simp;omega) ?_)
    case c2=>first|rfl|exact⟨rfl,rfl⟩|(intro u hu;simp at hu;subst hu;rfl)|(intro u hu;simp at hu;rcases hu with rfl|rfl<;>rfl)
    intro v2 w5 ho2 hg2 _ hat2
    obtain⟨g2,k2,rfl⟩:=aB ho2 (by omega)
    have T2:=HT1.out.o8 (.cells #[.int .i64 (-1),.int .i64 (-1)] 3) [(-1),(-1)] ho2 (by simp[HLC.out.2]) (by simp) hg2 hat2;have HT2:=hid T2.1;have HB2b:=hid (HB1b.out.trans T2.2);have hs2b:=T2.1.le;have HO2:Hid (w5.ownsRow w2.heap.size 5 1 (.slice (some ⟨g1,0,none⟩) (q+2) k1) (q+2) ((cs++[20,(kk:Int)]).map (Value.int .u8))):=Bb T2.1.bI (by simp[HLC.out.1]);have hsz2:w4.heap.size≤w5.heap.size:=by have:=hg2.size;simp at this;omega
    clear T2 ho2 hg2 hat2;have ck5:=(HB2b.out.cell (p:=⟨cb,co+p,none⟩) hcb2).trans ck;have hcb5:cb<w5.heap.size:=(by omega);go_wp2_with(at_builtin;refine wpList_append_own_at _ rfl (.tmp 41) (.tmp 46) 39 rfl w2.heap.size 5 iu (.int .u8 0) 1 1 Tryz.underlying39 hiu hzu0 hzu1 hzu2 rfl (by decide) _ (q+2) _ rfl (HO2.out.alloc _) ⟨_,0,none⟩ 1 1 [.int .u8 y] rfl rfl (cell_one_new _ _ _) ?c2 (by unfold maxLen;omega) (by omega) (by simp;omega) ?_)
    case c2=>first|rfl|exact⟨rfl,rfl⟩|(intro u hu;simp at hu;subst hu;rfl)|(intro u hu;simp at hu;rcases hu with rfl|rfl<;>rfl)
    intro v3 w6 ho3 hg3 _ hat3
    obtain⟨g3,k3,rfl⟩:=aB ho3 (by omega)
    have T3:=HT2.out.o5 (.cells #[.int .u8 y] 5) [y] ho3 (by simp[HLC.out.1]) (by simp) hg3 hat3;have HT3:=hid T3.1;have HB3b:=hid (HB2b.out.trans T3.2);have hs3b:=T3.1.le;have HO3:Hid (w6.ownsRow w2.heap.size 3 1 (.slice (some ⟨g2,0,none⟩) (q+2) k2) (q+2) ((fs++[-1,-1]).map (Value.int .i64))):=Bb T3.1.bR (by simp[HLC.out.2]);have hsz3:w5.heap.size≤w6.heap.size:=by have:=hg3.size;simp at this;omega
    clear T3 ho3 hg3 hat3;go_wp2_with(at_builtin;refine wpList_append_own_at _ rfl (.tmp 48) (.tmp 50) 32 rfl w2.heap.size 3 ii (.int .i64 0) 1 8 Tryz.underlying32 hii hzi0 hzi1 hzi2 rfl (by decide) _ (q+2) _ rfl (HO3.out.alloc _) ⟨_,0,none⟩ 1 1 [.int .i64 (p:Int)] rfl rfl (cell_one_new _ _ _) ?c2 (by unfold maxLen;omega) (by omega) (by simp;omega) ?_)
    case c2=>first|rfl|exact⟨rfl,rfl⟩|(intro u hu;simp at hu;subst hu;rfl)|(intro u hu;simp at hu;rcases hu with rfl|rfl<;>rfl)
    intro v4 w7 ho4 hg4 _ hat4
    obtain⟨g4,k4,rfl⟩:=aB ho4 (by omega)
    have T4:=HT3.out.o8 (.cells #[.int .i64 (p:Int)] 3) [(p:Int)] ho4 (by simp[HLC.out.2]) (by simp) hg4 hat4;have HT4:=hid T4.1;have HB4b:=hid (HB3b.out.trans T4.2);have hs4b:=T4.1.le;have hsz4:w6.heap.size≤w7.heap.size:=by have:=hg4.size;simp at this;omega
    clear T4 ho4 hg4 hat4;have HZ:Hid (P1 w2.heap.size w2 w7 (.slice (some ⟨g3,0,none⟩) (q+2+1) k3) (.slice (some ⟨g4,0,none⟩) (q+2+1) k4) c N (p+1)):=HEND.out w7 _ _ HT4.out HB4b.out;clear HEND HT1 HT2 HT3 HT4 HB1b HB2b HB3b HB4b HO HO1 HO2 HO3 HTR HLC;go_wp2_with fail
    go_roundw
    case rel=>exact ⟨p+1,_,_,by omega,rfl,rfl,by go_num,HZ.out⟩
    case measure=>simp [intOf];omega
  ·obtain rfl:p=L:=by omega
   have hnn:¬(p:Int)<(p:Int):=(by omega);have HCr:Hid (Laid wr cb co p cap c):=(HC.out.below HB2.out).below HP.out.below;have HST:Hid (Calls Tryz.prog 61 #[.slice (some ⟨cb,co,none⟩) p cap,.bool false] wr fun e w'=>∃v,w'.ownsRow wr.heap.size 3 1 v N (mR c N)∧e=.returned (.tuple #[v,.int .i64 (-1)])∧Below wr.heap.size wr w'):=by
    refine(js wr cb co p cap c false (by omega) HBY.out HCr.out).mono ?_
    rintro e w' ⟨N',S',hB,⟨h1,h2,_⟩|⟨h1,v,h2,rfl⟩⟩
    ·obtain rfl:=HF.out.sp.same HF.out.last S' (Or.inr ⟨h1,h2⟩)
     have:=HF.out.last
     omega
    ·obtain rfl:=HF.out.sp.same HF.out.last S' (Or.inl h1)
     exact⟨v,h2,rfl,hB⟩
   have hQ0:0<fG (aT c N) p:=by unfold fG;omega
   have hcl:=gW (aT c N) c p;have hfl:=cr c N p
   obtain⟨go,capo,hvo⟩:=aB HP.out.rows.bI (by omega)
   obtain⟨gf,capf,hvf⟩:=aB HP.out.rows.bR (by omega)
   rw[hcl]at hvo;rw[hfl]at hvf;subst hvo hvf;have HN0:=HF.out.one;have hN240:N≤240:=by have:=HF.out.sp.count;omega
   clear hcl hfl;go_wp2_with fail
   refine HST.out.mono ?_;rintro _ w3 ⟨vl,hol,rfl,B3⟩
   obtain⟨gl,capl,rfl,hgl,hlr,hlm,hlc⟩:=iG hol HN0
   have hz3:=B3.size;have T3:TR w2.heap.size w3 (.slice (some ⟨go,0,none⟩) (fG (aT c N) p) capo) (.slice (some ⟨gf,0,none⟩) (fG (aT c N) p) capf) (dS (aT c N) (vm c N 0) p) (bf c N p):=by
    have h:=HP.out.rows;rw[Iw]
    exact⟨eW h.bI (fun g e=>B3.block g ((h.bI.lt g e).2)),eW h.bR (fun g e=>B3.block g ((h.bR.lt g e).2)),h.apart,by omega⟩
   have hgo:go<wr.heap.size:=(HP.out.rows.bI.lt go rfl).2;have hgf:gf<wr.heap.size:=(HP.out.rows.bR.lt gf rfl).2;have hgb:w2.heap.size≤go:=(HP.out.rows.bI.lt go rfl).1;have hgogf:go≠gf:=by
    rcases HP.out.rows.apart with a|a
    ·cases a
    ·intro e;exact a (by rw[e];rfl)
   have HLC:Hid (∀wx,w3.grownBy wx (some go)→∀t,t<N→wx.cell? ⟨gl,t,none⟩=some (.int .i64 (pos c t:Int))):=fun wx hg t ht=>hg.cell (a:=⟨gl,t,none⟩) (hlc t _ (by unfold mR;rw[List.getElem?_map,List.getElem?_range ht];rfl)) (by intro e;have:=Option.some.inj e;simp at this;omega)
   have HCC:Hid (∀wx,w3.grownBy wx (some go)→∀t,t<p→wx.cell? ⟨cb,co+t,none⟩=some (.int .u8 (c t))):=fun wx hg t ht=>hg.cell (a:=⟨cb,co+t,none⟩) ((HCr.out.below B3).cell t ht) (by intro e;have:=Option.some.inj e;simp at this;omega)
   have HB03:Hid (Below w.heap.size w w3):=(HB2.out.trans (HP.out.below.mono (by omega))).trans (B3.mono (by omega));have hwgo:w.heap.size≤go:=(by omega);have HT3:=hid T3;clear hol hlc T3 B3 HST HPL HC2;go_wp2_with fail
   go_loopw [13] (fun i wx=>∃m:Nat,m≤N∧i=.int .i64 m∧TR w2.heap.size wx (.slice (some ⟨go,0,none⟩) (fG (aT c N) p) capo) (.slice (some ⟨gf,0,none⟩) (fG (aT c N) p) capf) (dS (aT c N) (vm c N m) p) (bf c N p)∧w3.grownBy wx (some go)) (fun i _=>N-(intOf i).toNat)
   case atStart=>exact ⟨0,by omega,rfl,HT3.out,World.grownBy.refl _ _⟩
   case round=>
    obtain⟨m,hm,rfl,hT,hG⟩:=hrel
    have HTm:=hid hT;have HGm:=hid hG;have hfl:=cr c N p;have hcl:=gW (aT c N) (vm c N m) p;by_cases hmN:m<N
    ·obtain⟨kk,A,hnext⟩:=HF.out.sp.at hmN
     have hpm:=A.lt;have lm:=HLC.out wr hG m hmN;have cm:=HCC.out wr hG (pos c m) hpm;have hi2:(m:Int)<(N:Int):=(by omega);have hi3:((pos c m:Nat):Int)<(p:Int):=(by omega);have HMN:=hid hmN;by_cases hlead:aW (c (pos c m))=true
     ·have hsz:=rI hlead;have hfit:=A.fits;have hkk:(c (pos c m)).toNat=kk:=by rw[A.op];omega
      rw[hkk]at hsz;have hp1:pos c m+1<p:=(by omega);have cm1:=HCC.out wr hG (pos c m+1) hp1
      obtain⟨t,ht,het⟩:=HF.out.jump hmN hlead
      have htp:=HF.out.sp.lt ht;have hbt:=HV.out.leadsTo hmN hlead het.symm;have hrt:=nZ hbt;have hqt:fG (aT c N) (pos c t)≤240:=by have:=zT (f:=aT c N) (p:=pos c t) (r:=p) (by omega);omega
      have hrp:rV (aT c N) (pos c m+1)<fG (aT c N) p:=by
       have h1:=kO (aT c N) (pos c m+1);have h2:=zT (f:=aT c N) (p:=pos c m+1+1) (r:=p) (by omega);omega
      have hfn:gO wr (.slice (some ⟨gf,0,none⟩) (fG (aT c N) p) capf) (fG (aT c N) p) (pf c N p):=by
       have h2:=hT.bR;rw[hfl]at h2
       obtain⟨g',cp',e,_,hr,hmx,hc⟩:=iG h2 hQ0
       refine .full gf 0 capf rfl (fun i hi=> ?_) (by simp at e;omega) (by simp at e;unfold maxLen at hmx;omega) hQ0;rw[Nat.zero_add];have eg:gf=g':=by simp at e;exact e.1
       rw[eg];refine hc i _ ?_;rw[←hfl]at hi;rw[List.getElem?_map,List.getElem?_eq_getElem hi];unfold pf;rw[List.getD_eq_getElem?_getD,List.getElem?_eq_getElem hi];rfl
      have HP1:Hid (Calls Tryz.prog 60 #[.slice (some ⟨gf,0,none⟩) (fG (aT c N) p) capf,.int .i64 (pos c t:Int)] wr fun e w'=>w'=wr∧e=.returned (.int .i64 ((fG (aT c N) (pos c t):Int)+2))):=by
       refine(oQ wr _ _ _ hfn (by omega) _).mono ?_
       rintro e w' ⟨rfl,r,hr,rfl⟩
       exact⟨rfl,by rw[rK htp hr,hrt];rfl⟩
      have HP2:Hid (Calls Tryz.prog 60 #[.slice (some ⟨gf,0,none⟩) (fG (aT c N) p) capf,.int .i64 ((pos c m:Int)+1)] wr fun e w'=>w'=wr∧e=.returned (.int .i64 (rV (aT c N) (pos c m+1):Int))):=by
       refine(oQ wr _ _ _ hfn (by omega) _).mono ?_
       rintro e w' ⟨rfl,r,hr,rfl⟩
       exact⟨rfl,by rw[rK (p:=pos c m+1) hp1 hr]⟩
      have o1:=hT.bI;rw[hcl]at o1
      obtain⟨xo,hxo⟩:∃x,((dS (aT c N) (vm c N m) p).map (Value.int .u8))[rV (aT c N) (pos c m+1)]?=some x:=⟨_,List.getElem?_eq_getElem (by rw[List.length_map,hcl];exact hrp)⟩
      have cgo:=o1.cellAt (rV (aT c N) (pos c m+1)) (by omega);rw[hxo]at cgo;have fo:=o1.frozenAt (rV (aT c N) (pos c m+1))
      obtain⟨o2,g2⟩:=o1.stored (rV (aT c N) (pos c m+1)) (.int .u8 (fG (aT c N) (pos c t):Int))
      have HN2:Hid (TR w2.heap.size (wr.setCell ⟨go,rV (aT c N) (pos c m+1),none⟩ (.int .u8 (fG (aT c N) (pos c t):Int))) (.slice (some ⟨go,0,none⟩) (fG (aT c N) p) capo) (.slice (some ⟨gf,0,none⟩) (fG (aT c N) p) capf) (dS (aT c N) (vm c N (m+1)) p) (bf c N p)∧w3.grownBy (wr.setCell ⟨go,rV (aT c N) (pos c m+1),none⟩ (.int .u8 (fG (aT c N) (pos c t):Int))) (some go)):=by
       refine⟨⟨?_,eW hT.bR (fun g e=>heap_setCell_other wr ⟨go,_,none⟩ g _ (by
        have:gf=g:=by simpa[Value.ownBlock]using e
        show g≠go
        omega)),hT.apart,by have:=hT.le;simpa using this⟩,World.grownBy.trans' hG g2⟩
       have hx:c (pos c m+1)+2*cK (aT c N) (c (pos c m+1)).toNat=(fG (aT c N) (pos c t):Int):=by
        rw[←het,Int.toNat_natCast];unfold fG;omega
       rw[Kk hlead,hx,←tJ _ _ _ _ _ hp1,List.length_set,hcl,List.map_set];exact o2
      rw[←het]at cm1;have hwq:IntKind.u8.wrap (fG (aT c N) (pos c t):Int)=(fG (aT c N) (pos c t):Int):=qo (by omega) (by omega);have h1415:c (pos c m)=14∨c (pos c m)=15:=(by simpa[aW]using hlead);have ht80:pos c t<80:=(by omega);have hi4:((pos c m:Int)+1)<(p:Int):=(by omega);have hi5:(rV (aT c N) (pos c m+1):Int)<(fG (aT c N) p:Int):=(by omega);have hm80:pos c m<80:=(by omega);clear hT hG A hnext hlead hsz hkk hfit het hrt hbt hfn o1 hxo o2 g2 hfl hcl htp;rcases h1415 with h14|h14;all_goals
       rw[h14]at cm;clear h14;go_wp2_with fail
       refine HP1.out.mono ?_;rintro _ w' ⟨hw',rfl⟩;obtain rfl:=hw'.symm;go_wp2_with fail
       refine HP2.out.mono ?_;rintro _ w' ⟨hw',rfl⟩;obtain rfl:=hw'.symm;go_wp2_with fail
       go_roundw
       case rel=>exact ⟨m+1,by have:=HMN.out;omega,by go_num,HN2.out.1,HN2.out.2⟩
       case measure=>have:=HMN.out;simp[intOf];omega
     ·have hl0:aW (c (pos c m))=false:=(by simpa using hlead);have hb14:(c (pos c m)==14)=false:=by rw[beq_eq_false_iff_ne];intro e;rw[e]at hlead;exact hlead rfl
      have hb15:(c (pos c m)==15)=false:=by rw[beq_eq_false_iff_ne];intro e;rw[e]at hlead;exact hlead rfl
      have HN2:Hid (TR w2.heap.size wr (.slice (some ⟨go,0,none⟩) (fG (aT c N) p) capo) (.slice (some ⟨gf,0,none⟩) (fG (aT c N) p) capf) (dS (aT c N) (vm c N (m+1)) p) (bf c N p)):=by
       show TR _ _ _ _ _ _;rw[Li hl0];exact hT
      clear hT hG A hnext hlead hfl hcl hl0;generalize c (pos c m)=x at*;go_wp2_with fail
      go_roundw
      case rel=>exact ⟨m+1,by have:=HMN.out;omega,by go_num,HN2.out,HGm.out⟩
      case measure=>have:=HMN.out;simp[intOf];omega
    ·obtain rfl:m=N:=by omega
     have hnn2:¬(m:Int)<(m:Int):=(by omega);have HFIN:Hid (∃base vo vf,w.heap.size≤base∧TR base wr vo vf (bL c m p) (bf c m p)∧(Ending.returned (.tuple #[.slice (some ⟨go,0,none⟩) (fG (aT c m) p) capo,.slice (some ⟨gf,0,none⟩) (fG (aT c m) p) capf,.int .i64 0]):Ending)=.returned (.tuple #[vo,vf,.int .i64 0])∧Below w.heap.size w wr):=by
      refine⟨w2.heap.size,_,_,by omega,?_,rfl,?_⟩
      ·rw[B9];exact hT
      ·have b:=HB03.out
       exact⟨hG.os.trans b.os,hG.tape.trans b.tape,hG.output.trans b.output,Nat.le_trans b.size hG.size,fun j hj=>(hG.block j (by have:=b.size;omega) (fun e=>by have:=Option.some.inj e;omega)).trans (b.block j hj)⟩
     clear hT hG hfl hcl;go_wp2_with fail
     refine bodyPost_ret (v:=.tuple #[.slice (some ⟨go,0,none⟩) (fG (aT c m) p) capo,.slice (some ⟨gf,0,none⟩) (fG (aT c m) p) capf,.int .i64 0]) (by simp[results,Tryz.results21,go_sem]) rfl ?_;exact HFIN.out
theorem FE {n:Nat}{a b c:World}(h:Below n a b)(s:Sm b c):Below n a c:=h.trans (s.below n)
theorem gV {w:World}{B:Nat→Prop}{M:Nat}{L:Nat→Nat}(hb:Bk w B M L)(hLL:∀r,L r≤1000000000000000):
  Calls Tryz.prog 7 #[.pointer (some ⟨M,0,none⟩)] w fun e w'=>e=.returned (.bool true)∧Below w.heap.size w w':=by
 obtain⟨F,X,h,hL1⟩:=hb
 have hL:∀r,(X r).length≤1000000000000000:=fun r=>Nat.le_trans (hL1 r) (hLL r)
 have HAT:Hid (∀q,q<4→∀i,i<(X q).length→∃p g cap ao n cp g4 cap4,J8 w M q i (X q).length p g cap ao n cp∧w.cell? ⟨M,4+q,none⟩=some (.slice (some ⟨g4,0,none⟩) (X q).length cap4)∧w.cell? ⟨g4,i,none⟩=some (.int .i64 (qZ q p))∧p≤1000000000000000):=fun q hq i hi=>by
  obtain⟨p,g,cap,ao,n,cp,A,m⟩:=h.at q (by omega) hi
  obtain⟨g4,cap4,m1,m2,m3⟩:=m hq
  exact⟨p,g,cap,ao,n,cp,g4,cap4,A,m1,m2,by have:=hL q;omega⟩
 have HLO:Hid (∀wr,Below w.heap.size w wr→Calls Tryz.prog 20 #[.pointer (some ⟨M,0,none⟩)] wr fun e w'=>e=.returned (.bool true)∧Sm wr w'):=fun wr b=>CF (h.keep b.size (fun k hk=>b.block k (h.lt k hk)) (fun _ c=>c) (fun k hk=>Nat.lt_of_lt_of_le (h.lt k hk) b.size) h.low) (by have:=hL 8;omega) (by have:=hL 9;omega)
 obtain⟨a0,c0,h0⟩:=h.head 0 (by omega)
 have E0:=hid h0;have H0:=HAT.out 0 (by omega);have HH0:Hid _:=H0;have l0:=hL 0;clear h0 H0
 obtain⟨a1,c1,h1⟩:=h.head 1 (by omega)
 have E1:=hid h1;have H1:=HAT.out 1 (by omega);have HH1:Hid _:=H1;have l1:=hL 1;clear h1 H1
 obtain⟨a2,c2,h2⟩:=h.head 2 (by omega)
 have E2:=hid h2;have H2:=HAT.out 2 (by omega);have HH2:Hid _:=H2;have l2:=hL 2;clear h2 H2
 obtain⟨a3,c3,h3⟩:=h.head 3 (by omega)
 have E3:=hid h3;have H3:=HAT.out 3 (by omega);have HH3:Hid _:=H3;have l3:=hL 3;clear h3 H3;clear h HAT hL hL1
 generalize(X 0).length=n0 at*
 generalize(X 1).length=n1 at*
 generalize(X 2).length=n2 at*
 generalize(X 3).length=n3 at*
 have HB:Hid (Below w.heap.size w w):=Below.refl _ _;go_in;go_wp2_with fail
 go_loopw [3,4] (fun i _ wr=>∃k:Nat,k≤n0∧i=.int .i64 k∧Below w.heap.size w wr) (fun i _ _=>n0-(intOf i).toNat)
 case atStart=>exact ⟨0,by omega,rfl,HB.out⟩
 case round=>
  clear HB
  obtain⟨k,hk,rfl,hB⟩:=hrel
  have HB:=hid hB;by_cases hlt:k<n0
  ·obtain⟨p,g,cap,ao,n,cp,g4,cap4,A,m1,m2,m3⟩:=HH0.out k hlt
   have HA:Hid (J8 w M 0 k n0 p g cap ao n cp∧w.cell? ⟨M,4,none⟩=some (.slice (some ⟨g4,0,none⟩) n0 cap4)∧w.cell? ⟨g4,k,none⟩=some (.int .i64 (qZ 0 p))):=⟨A,m1,m2⟩;have hn:=A.most;have c1:=cS hB A.head;have c2:=cS hB A.cell;have c3:=cS hB m1;have c4:=cS hB m2;have hi1:(k:Int)<(n0:Int):=(by omega);clear A hB m1 m2;go_wp2_with fail
   go_loopw [4] (fun j wx=>∃q:Nat,q≤n∧j=.int .i64 q∧Below w.heap.size w wx) (fun j _=>n-(intOf j).toNat)
   case atStart=>exact ⟨0,by omega,rfl,HB.out⟩
   case round=>
    clear HB c1 c2 c3 c4
    obtain⟨q,hq,rfl,hB⟩:=hrel
    have HB:=hid hB;have c1:=cS hB HA.out.1.head;have c2:=cS hB HA.out.1.cell;have c3:=cS hB HA.out.2.1;have c4:=cS hB HA.out.2.2;by_cases hql:q<n
    ·obtain⟨b,rfl,hb⟩:=HA.out.1.row q hql
     have c5:wr.cell? ⟨b,q,none⟩=some (.int .u8 (wh p q)):=by
      have:=cS hB (hb 0 (by decide))
      rw[show q*rU 0+0=q from by show q*1+0=q;omega]at this;exact this
     have hi2:(q:Int)<(n:Int):=(by omega);have HDG:Hid (∀wy,Calls Tryz.prog 18 #[.int .i64 (p:Int),.int .i64 (q:Int)] wy fun e w'=>e=.returned (.int .u8 (wh p q))∧w'=wy):=fun wy=>sM p q (by omega) (by omega) wy
     replace c4:wr.cell? ⟨g4,k,none⟩=some (.int .i64 (p:Int)):=c4;clear hB hb;generalize wh p q=dg at*;go_wp2_with fail
     go_quiet((go_at_call 18;refine Calls.quiet_of_same (HDG.out _)))
     go_wp2_with fail
     go_roundw
     case rel=>exact ⟨q+1,by omega,by go_num,FE HB.out ((Sm.refl _).drewN _)⟩
     case measure=>simp [intOf];omega
    ·obtain rfl:q=n:=by omega
     have hnn:¬(q:Int)<(q:Int):=(by omega);clear hB;go_wp2_with fail
     go_roundw
     case rel=>exact ⟨k+1,by omega,by go_num,HB.out⟩
     case measure=>simp [intOf];omega
  ·obtain rfl:k=n0:=by omega
   have hn0:¬(k:Int)<(k:Int):=(by omega);have c1:=cS hB E0.out;clear hB;go_wp2_with fail
   clear hn0 c1 E0 HH0;go_loopw [5,6] (fun i _ wr=>∃k:Nat,k≤n1∧i=.int .i64 k∧Below w.heap.size w wr) (fun i _ _=>n1-(intOf i).toNat)
   case atStart=>exact ⟨0,by omega,rfl,HB.out⟩
   case round=>
    clear HB
    obtain⟨k,hk,rfl,hB⟩:=hrel
    have HB:=hid hB;by_cases hlt:k<n1
    ·obtain⟨p,g,cap,ao,n,cp,g4,cap4,A,m1,m2,m3⟩:=HH1.out k hlt
     have HA:Hid (J8 w M 1 k n1 p g cap ao n cp∧w.cell? ⟨M,5,none⟩=some (.slice (some ⟨g4,0,none⟩) n1 cap4)∧w.cell? ⟨g4,k,none⟩=some (.int .i64 (qZ 1 p))):=⟨A,m1,m2⟩;have hn:=A.most;have c1:=cS hB A.head;have c2:=cS hB A.cell;have c3:=cS hB m1;have c4:=cS hB m2;have hi1:(k:Int)<(n1:Int):=(by omega);clear A hB m1 m2;go_wp2_with fail
     go_loopw [6] (fun j wx=>∃q:Nat,q≤n∧j=.int .i64 q∧Below w.heap.size w wx) (fun j _=>n-(intOf j).toNat)
     case atStart=>exact ⟨0,by omega,rfl,HB.out⟩
     case round=>
      clear HB c1 c2 c3 c4
      obtain⟨q,hq,rfl,hB⟩:=hrel
      have HB:=hid hB;have c1:=cS hB HA.out.1.head;have c2:=cS hB HA.out.1.cell;have c3:=cS hB HA.out.2.1;have c4:=cS hB HA.out.2.2;by_cases hql:q<n
      ·obtain⟨b,rfl,hb⟩:=HA.out.1.row q hql
       have c5:wr.cell? ⟨b,q,none⟩=some (.int .i64 (qZ 1 p)):=by
        have:=cS hB (hb 0 (by decide))
        rw[show q*rU 1+0=q from by show q*1+0=q;omega]at this;exact this
       have hi2:(q:Int)<(n:Int):=(by omega);clear hB hb;generalize qZ 1 p=mm at*;go_wp2_with fail
       go_quiet(fail)
       go_wp2_with fail
       go_roundw
       case rel=>exact ⟨q+1,by omega,by go_num,FE HB.out ((Sm.refl _).drewN _)⟩
       case measure=>simp [intOf];omega
      ·obtain rfl:q=n:=by omega
       have hnn:¬(q:Int)<(q:Int):=(by omega);clear hB;go_wp2_with fail
       go_roundw
       case rel=>exact ⟨k+1,by omega,by go_num,HB.out⟩
       case measure=>simp [intOf];omega
    ·obtain rfl:k=n1:=by omega
     have hn1:¬(k:Int)<(k:Int):=(by omega);have c1:=cS hB E1.out;clear hB;go_wp2_with fail
     clear hn1 c1 E1 HH1;go_loopw [7,8,9] (fun i _ _ wr=>∃k:Nat,k≤n2∧i=.int .i64 k∧Below w.heap.size w wr) (fun i _ _ _=>n2-(intOf i).toNat)
     case atStart=>exact ⟨0,by omega,rfl,HB.out⟩
     case round=>
      clear HB
      obtain⟨k,hk,rfl,hB⟩:=hrel
      have HB:=hid hB;by_cases hlt:k<n2
      ·obtain⟨p,g,cap,ao,n,cp,g4,cap4,A,m1,m2,m3⟩:=HH2.out k hlt
       have HA:Hid (J8 w M 2 k n2 p g cap ao n cp∧w.cell? ⟨M,6,none⟩=some (.slice (some ⟨g4,0,none⟩) n2 cap4)∧w.cell? ⟨g4,k,none⟩=some (.int .i64 (qZ 2 p))):=⟨A,m1,m2⟩;have hn:=A.most;have c1:=cS hB A.head;have c2:=cS hB A.cell;have c3:=cS hB m1;have c4:=cS hB m2;have hi1:(k:Int)<(n2:Int):=(by omega);have HMK:Hid (∀wy,Calls Tryz.prog 19 #[.int .i64 (qZ 2 p)] wy fun e w'=>e=.returned (.string (th (p+1)))∧Below wy.heap.size wy w'):=fun wy=>tj wy (p+1) (by omega)
       clear A hB m1 m2;generalize hmx:qZ 2 p=mx at*;generalize hms:th (p+1)=ms at*;go_wp2_with fail
       refine(HMK.out _).mono ?_
       rintro e wm ⟨rfl,bm⟩;have hB:=HB.out.trans (bm.mono HB.out.size);clear HB bm HMK c1 c2 c3 c4;have HB:=hid hB;have c1:=cS hB HA.out.1.head;have c2:=cS hB HA.out.1.cell;clear hB;go_wp2_with fail
       go_loopw [9] (fun j wx=>∃q:Nat,q≤n∧j=.int .i64 q∧Below w.heap.size w wx) (fun j _=>n-(intOf j).toNat)
       case atStart=>exact ⟨0,by omega,rfl,HB.out⟩
       case round=>
        clear HB c1 c2
        obtain⟨q,hq,rfl,hB⟩:=hrel
        have HB:=hid hB;have c1:=cS hB HA.out.1.head;have c2:=cS hB HA.out.1.cell;have c3:=cS hB HA.out.2.1;have c4:=cS hB HA.out.2.2;by_cases hql:q<n
        ·obtain⟨b,rfl,hb⟩:=HA.out.1.row q hql
         have c5:wr.cell? ⟨b,q,none⟩=some (.string ms):=by
          have:=cS hB (hb 0 (by decide))
          rw[show q*rU 2+0=q from by show q*1+0=q;omega]at this;rw[←hms];exact this
         have hi2:(q:Int)<(n:Int):=(by omega);clear hB hb;go_wp2_with fail
         go_roundw
         case rel=>exact ⟨q+1,by omega,by go_num,HB.out⟩
         case measure=>simp [intOf];omega
        ·obtain rfl:q=n:=by omega
         have hnn:¬(q:Int)<(q:Int):=(by omega);clear hB;go_wp2_with fail
         go_roundw
         case rel=>exact ⟨k+1,by omega,by go_num,HB.out⟩
         case measure=>simp [intOf];omega
      ·obtain rfl:k=n2:=by omega
       have hn2:¬(k:Int)<(k:Int):=(by omega);have c1:=cS hB E2.out;clear hB;go_wp2_with fail
       clear hn2 c1 E2 HH2;go_loopw [10,11,12] (fun i _ _ wr=>∃k:Nat,k≤n3∧i=.int .i64 k∧Below w.heap.size w wr) (fun i _ _ _=>n3-(intOf i).toNat)
       case atStart=>exact ⟨0,by omega,rfl,HB.out⟩
       case round=>
        clear HB
        obtain⟨k,hk,rfl,hB⟩:=hrel
        have HB:=hid hB;by_cases hlt:k<n3
        ·obtain⟨p,g,cap,ao,n,cp,g4,cap4,A,m1,m2,m3⟩:=HH3.out k hlt
         have HA:Hid (J8 w M 3 k n3 p g cap ao n cp∧w.cell? ⟨M,7,none⟩=some (.slice (some ⟨g4,0,none⟩) n3 cap4)∧w.cell? ⟨g4,k,none⟩=some (.int .i64 (qZ 3 p))):=⟨A,m1,m2⟩;have hn:=A.most;have c1:=cS hB A.head;have c2:=cS hB A.cell;have c3:=cS hB m1;have c4:=cS hB m2;have hi1:(k:Int)<(n3:Int):=(by omega);clear A hB m1 m2;go_wp2_with fail
         go_loopw [12] (fun j wx=>∃q:Nat,q≤n∧j=.int .i64 q∧Below w.heap.size w wx) (fun j _=>n-(intOf j).toNat)
         case atStart=>exact ⟨0,by omega,rfl,HB.out⟩
         case round=>
          clear HB c1 c2 c3 c4
          obtain⟨q,hq,rfl,hB⟩:=hrel
          have HB:=hid hB;have c1:=cS hB HA.out.1.head;have c2:=cS hB HA.out.1.cell;have c3:=cS hB HA.out.2.1;have c4:=cS hB HA.out.2.2;by_cases hql:q<n
          ·obtain⟨b,rfl,hb⟩:=HA.out.1.row q hql
           have c5:wr.cell? ⟨b,q*3,none⟩=some (.string ⟨#[]⟩):=(cS hB (hb 0 (by decide))).trans (by show some (eB 3 p (q*3+0))=_;unfold eB;rw[if_neg (by decide),if_neg (by decide),if_neg (by decide),if_pos (by decide),if_pos (by omega)]);have c6:wr.cell? ⟨b,q*3+1,none⟩=some (.int .i64 (qZ 3 p)):=(cS hB (hb 1 (by decide))).trans (by show some (eB 3 p (q*3+1))=_;unfold eB;rw[if_neg (by decide),if_neg (by decide),if_neg (by decide),if_pos (by decide),if_neg (by omega)]);have c7:wr.cell? ⟨b,q*3+2,none⟩=some (.int .i64 (qZ 3 p)):=(cS hB (hb 2 (by decide))).trans (by show some (eB 3 p (q*3+2))=_;unfold eB;rw[if_neg (by decide),if_neg (by decide),if_neg (by decide),if_pos (by decide),if_neg (by omega)]);have hi2:(q:Int)<(n:Int):=(by omega);clear hB hb;generalize qZ 3 p=mm at*;go_wp2_with fail
           go_roundw
           case rel=>exact ⟨q+1,by omega,by go_num,HB.out⟩
           case measure=>simp [intOf];omega
          ·obtain rfl:q=n:=by omega
           have hnn:¬(q:Int)<(q:Int):=(by omega);clear hB;go_wp2_with fail
           go_roundw
           case rel=>exact ⟨k+1,by omega,by go_num,HB.out⟩
           case measure=>simp [intOf];omega
        ·obtain rfl:k=n3:=by omega
         have hn3:¬(k:Int)<(k:Int):=(by omega);have c1:=cS hB E3.out;clear hB;have HL:=HLO.out wr HB.out;have HLL:=hid HL;clear HL;go_wp2_with fail
         refine HLL.out.mono ?_;rintro e w5 ⟨rfl,S5⟩;have HS5:=hid (FE HB.out S5);go_wp2_with fail
         go_ret
         exact⟨rfl,HS5.out⟩
theorem rM (w:World)(v:Value)(L:Nat)(c:Nat→Int)(hby:∀i,i<L→0≤c i∧c i≤255)(C:b9 w v L c)(hbad:¬∃N,VP c L N):
  Calls Tryz.prog 21 #[v] w fun e w'=>e=.returned (.tuple #[.slice none 0 0,.slice none 0 0,.int .i64 1])∧Below w.heap.size w w':=by
 have HW:Hid (Calls Tryz.prog 58 #[v,.int .i64 80,.bool false] w fun e w'=>∃r:Nat,e=.returned (.int .i64 (r:Int))∧Below w.heap.size w w'):=by
  refine(iY w v L 80 c false (by omega) hby C).mono ?_
  rintro e w' ⟨r,b,hf,rfl,hB⟩
  cases b with
  |true=>exact ⟨r,rfl,hB⟩
  |false=>
   obtain⟨_,hL,N,F⟩:=hf.fine
   exact absurd ⟨N,F.vp hL⟩ hbad
 obtain⟨p,cap,rfl⟩:=C.form
 clear C hby hbad;go_in;go_wp2_with fail
 refine HW.out.mono ?_;rintro _ w1 ⟨r,rfl,B1⟩;have HB:=hid B1;have h0:(0:Int)≤(r:Int):=by omega
 have h0':decide ((0:Int)≤(r:Int))=true:=by simp
 clear B1;go_wp2_with fail
 refine bodyPost_ret (v:=.tuple #[.slice none 0 0,.slice none 0 0,.int .i64 1]) (by simp[results,Tryz.results21,go_sem]) rfl ?_
 exact⟨rfl,HB.out⟩
end Go.Proofs.YtmpgjkhchfcjlaaGreatDoor
