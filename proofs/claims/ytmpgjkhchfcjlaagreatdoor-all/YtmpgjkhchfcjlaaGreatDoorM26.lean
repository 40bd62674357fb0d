import Derived.Test.YtmpgjkhchfcjlaaGreatDoorM24
import Derived.Test.YtmpgjkhchfcjlaaGreatDoorM25
namespace Go.Proofs.YtmpgjkhchfcjlaaGreatDoor
open Go.RowKit
set_option maxHeartbeats 2000000
theorem BL {c:Nat→Int}{L N:Nat}(F:gq c L N 19){m:Nat}(hm:m<N):cP (aT c N) L (pos c m)=if aM c m N=true then(bq c N m:Int)else -1:=by
 unfold cP vG;rw[if_pos (F.sp.lt hm),qg F.sp hm,yq F m (by omega)]
theorem yF {c:Nat→Int}{L N:Nat}(F:gq c L N 20){m:Nat}(hm:m<N):jQ c N (pos c m)=if c (pos c m)=20 then c (pos c m+1)else -1:=by
 unfold jQ
 have:G5 c N (pos c m)=(c (pos c m)==20):=by
  cases h:(c (pos c m)==20)with
  |true=>
   unfold G5;rw[List.any_eq_true]
   exact⟨m,List.mem_range.2 hm,by rw[h];simp⟩
  |false=>
   cases h':G5 c N (pos c m)with
   |false=>rfl
   |true=>
    unfold G5 at h';rw[List.any_eq_true]at h'
    obtain⟨t,ht,e⟩:=h'
    simp only[Bool.and_eq_true,beq_iff_eq]at e
    have:=F.sp.inj (m:=t) (k:=m) (by have:=List.mem_range.1 ht;omega) (by omega) e.1
    subst this;rw[e.2]at h;cases h
 rw[this];by_cases e:c (pos c m)=20
 ·rw[if_pos e,e];rfl
 ·rw[if_neg e,if_neg (by simpa using e)]
theorem vZ (w:World)(cb co L cap:Nat)(c aY:Nat→Int)(input:ByteArray)(fuel:Int)(h:jR c L aY)(hin:input.size≤24)(hf0:0≤fuel)(hf1:fuel≤500)(C:Laid w cb co L cap c):
  Calls Tryz.prog 67 #[.slice (some ⟨cb,co,none⟩) L cap,.string input,.int .i64 fuel] w (KB c aY input fuel w):=by
 have hb:=fun p hp=>h.bounds p hp
 rcases h with⟨N,hL,F,rfl⟩|⟨N,r,_,F,hp,rfl⟩
 ·refine vY w cb co L cap N c _ false input fuel (F.sp.more (by omega) (by omega)) F.last F.one F.good hb ?_ ?_ (fun _ m hm=>F.sp.op m hm) hin hf0 hf1 C
  ·cases h:bJ c N with
   |false=>rfl
   |true=>obtain ⟨m,hm,e⟩:=qy c h;have:=F.sp.op m hm;omega
  ·intro m hm;rw[BL F hm];rfl
 ·refine vY w cb co L cap N c _ true input fuel F.sp F.last F.one F.good hb hp ?_ (fun h=>by cases h) hin hf0 hf1 C;intro m hm;rw[yF F hm];rfl
theorem E6 (w:World)(v:Value)(L:Nat)(c:Nat→Int)(hby:∀i,i<L→0≤c i∧c i≤255)(C:b9 w v L c)(input:ByteArray)(fuel:Int):
  Calls Tryz.prog 26 #[v,.string input,.int .i64 fuel] w (sH c L input fuel w):=by
 have B0:Below w.heap.size w (w.alloc (.cells #[.int .i64 0,.int .i64 0,.int .i64 0,.string ⟨#[]⟩,.int .i64 0] 74)):=(Below.refl _ _).alloc (Nat.le_refl _) _;have hz0:(w.alloc (.cells #[.int .i64 0,.int .i64 0,.int .i64 0,.string ⟨#[]⟩,.int .i64 0] 74)).heap.size=w.heap.size+1:=by simp
 have hH0:=heap_alloc_new w (.cells #[.int .i64 0,.int .i64 0,.int .i64 0,.string ⟨#[]⟩,.int .i64 0] 74);have HW1:Hid (∀w,b9 w v L c→Calls Tryz.prog 58 #[v,.int .i64 80,.bool false] w (iF c L 80 false w)):=fun w C=>iY w v L 80 c false (by omega) hby C
 have HW2:Hid (∀w,b9 w v L c→Calls Tryz.prog 58 #[v,.int .i64 240,.bool true] w (iF c L 240 true w)):=fun w C=>iY w v L 240 c true (by omega) hby C
 go_in;go_wp2_with fail
 generalize(w.alloc (.cells #[.int .i64 0,.int .i64 0,.int .i64 0,.string ⟨#[]⟩,.int .i64 0] 74))=w0 at*
 refine(HW1.out w0 (C.below B0)).mono ?_
 rintro e w1 ⟨r1,b1,hF1,rfl,B1⟩;have B01:=B0.trans (B1.mono B0.size);cases b1;focus
  have hm1:¬(0:Int)≤-1:=by omega
  go_wp2_with fail
  refine(HW2.out w1 (C.below B01)).mono ?_
  rintro e w2 ⟨r2,b2,hF2,rfl,B2⟩;have B02:=B01.trans (B2.mono B01.size);have W02:=B1.trans (B2.mono B1.size)
  obtain⟨_,hL80,N,F⟩:=hF1.fine
  have hcan:gH c L true:=Or.inl ⟨rfl,hL80,N,F⟩
  obtain⟨aY,hent⟩:∃aY,jR c L aY:=⟨_,Or.inl ⟨N,hL80,F,rfl⟩⟩
  have F20:SP c L N 20:=F.sp.more (by unfold ym;simp) (by omega);have hlast:=F.last;have hpn:bJ c N=false:=by
   cases h:bJ c N with
   |false=>rfl
   |true=>obtain ⟨m,hm,e⟩:=qy c h;have:=F.sp.op m hm;unfold ym at this;simp at this;omega
  obtain⟨cb,co,cap,hv,C2⟩|⟨p,cap,hv,hL0⟩:=C.below B02
  rotate_left
  focus have:=F.pos;omega
  subst hv;cases b2;focus
   have HPR:Hid (Calls Tryz.prog 66 #[.slice (some ⟨cb,co,none⟩) L cap] w2 fun e w'=>e=.returned (.bool false)∧Below w2.heap.size w2 w'):=by
    have:=l5 w2 cb co L cap N c F20 hlast C2
    rw[hpn]at this;exact this
   go_wp2_with fail
   refine HPR.out.mono ?_;rintro e w3 ⟨rfl,B3⟩;have B03:=B02.trans (B3.mono B02.size);have W03:=W02.trans (B3.mono W02.size);have C3:=C2.below B3
  rotate_left
  focus
   have hr2:¬((r2:Nat):Int)<0:=(by omega);have hr2':decide (((r2:Nat):Int)<0)=false:=by simp
   obtain⟨w3,h⟩:∃x,x=w2:=⟨_,rfl⟩
   subst h;have B03:=B02;have W03:=W02;have C3:=C2
 rotate_left 2
 focus
  have hm1:(0:Int)≤((r1:Nat):Int):=by omega
  have hm1':decide ((0:Int)≤((r1:Nat):Int))=true:=by simp
  go_wp2_with fail
  refine(HW2.out w1 (C.below B01)).mono ?_
  rintro e w2 ⟨r2,b2,hF2,rfl,B2⟩;have B02:=B01.trans (B2.mono B01.size);have W02:=B1.trans (B2.mono B1.size);cases b2;focus
   obtain⟨_,hL240,N,F⟩:=hF2.fine
   obtain⟨cb,co,cap,hv,C2⟩|⟨p,cap,hv,hL0⟩:=C.below B02
   rotate_left
   focus have:=F.pos;omega
   subst hv;have HPR:=hid (l5 w2 cb co L cap N c F.sp F.last C2)
   cases hp:bJ c N
   all_goals
    rw[hp]at HPR;go_wp2_with fail
    refine HPR.out.mono ?_;rintro e w3 ⟨rfl,B3⟩;have B03:=B02.trans (B3.mono B02.size);have W03:=W02.trans (B3.mono W02.size)
   focus
    have hcan:gH c L false:=Or.inr ⟨r1,hF1,Or.inr ⟨rfl,Or.inr ⟨N,F,hp⟩⟩⟩
   rotate_left
   focus
    have C3:=C2.below B3;have hcan:gH c L true:=Or.inr ⟨r1,hF1,Or.inl ⟨rfl,N,F,hp⟩⟩
    obtain⟨aY,hent⟩:∃aY,jR c L aY:=⟨_,Or.inr ⟨N,r1,hF1,F,hp,rfl⟩⟩
  rotate_left 2
  focus
   have hr2:¬((r2:Nat):Int)<0:=(by omega);have hr2':decide (((r2:Nat):Int)<0)=false:=(by simp);have hcan:gH c L false:=Or.inr ⟨r1,hF1,Or.inr ⟨rfl,Or.inl ⟨r2,hF2⟩⟩⟩
   obtain⟨w3,h⟩:∃x,x=w2:=⟨_,rfl⟩
   subst h;have B03:=B02;have W03:=W02
  rotate_left 2
  iterate 2
   focus
    have hsz:=W03.size;rw[hz0]at hsz
    obtain⟨i0,i1,i2,i3,i4,j0,j1,j2,j3,j4⟩:=c5 ((W03.block _ (by omega)).trans hH0)
    go_wp2_with fail
    refine bodyPost_ret (v:=.tuple #[.agg #[.int .i64 0,.int .i64 0,.int .i64 0,.string ⟨#[]⟩,.int .i64 0],.slice none 0 0,.int .i64 1]) ?_ rfl ?_
    ·simp[results,Tryz.results26,go_sem,i0,i1,i2,i3,i4]
    ·exact Or.inl ⟨hcan,rfl,(aH (aH (aH (aH (aH B03 0 _) 1 _) 2 _) 3 _) 4 _)⟩
 all_goals
  have hsz:w.heap.size<w3.heap.size:=by have:=W03.size;rw[hz0]at this;omega
  have HENT:=hid hent;by_cases hbad:kj input fuel
  ·obtain⟨i0,i1,i2,i3,i4,j0,j1,j2,j3,j4⟩:=c5 ((W03.block _ (by omega)).trans hH0)
   have HB:=hid hbad;rcases Kv hbad with⟨d1,d1'⟩|⟨d1,d1',d2|⟨d2,d3,d3'⟩⟩;all_goals
    clear hbad;go_wp2_with fail
    refine bodyPost_ret (v:=.tuple #[.agg #[.int .i64 0,.int .i64 0,.int .i64 0,.string ⟨#[]⟩,.int .i64 0],.slice none 0 0,.int .i64 2]) ?_ rfl ?_
    ·simp[results,Tryz.results26,go_sem,i0,i1,i2,i3,i4]
    ·exact Or.inr (Or.inl ⟨hcan,HB.out,rfl,(aH (aH (aH (aH (aH B03 0 _) 1 _) 2 _) 3 _) 4 _)⟩)
  ·have HNB:=hid hbad
   obtain⟨hin,hf0,hf1,d1,d1',d2,d2',d3,d3'⟩:=Kw hbad
   clear hbad;have HRR:=hid (vZ w3 cb co L cap c aY input fuel hent hin hf0 hf1 C3);clear hent C3;go_wp2_with fail
   refine HRR.out.mono ?_;rintro e w4 ⟨n,τ,h1,h2,h3,B4,gg,hgg,hcov,rfl⟩;have B04:=B03.trans (B4.mono B03.size);have W04:=W03.trans (B4.mono W03.size);have hs4:=W04.size;rw[hz0]at hs4
   obtain⟨i0,i1,i2,i3,i4,j0,j1,j2,j3,j4⟩:=c5 ((W04.block _ (by omega)).trans hH0)
   have HFIN:Hid (τ=after c aY fuel (jm input) n∧τ.σ.ended=true∧(∀m,m<n→(after c aY fuel (jm input) m).σ.ended=false)∧Below w.heap.size w w4∧w4.heap[gg]?=some (.cells (fU τ.cnt 64).toArray 5 (0,0))∧w.heap.size<gg∧gg<w4.heap.size):=⟨h1,h2,h3,B04,hcov,by omega,(Array.getElem?_eq_some_iff.1 hcov).1⟩
   obtain⟨so,hso⟩:∃so,strOfNums τ.σ.out=so:=⟨_,rfl⟩
   rw[hso];have HSO:=hid hso;have hH3:w.heap.size<w4.heap.size:=(by omega);clear hso h1 h2 h3 B0 B1 B01 B2 B02 B04 B4 W04 hcov hF1 hF2 hcan;go_wp2
   obtain⟨F1,F2,F3,F4,F5,F6,F7⟩:=HFIN.out
   refine bodyPost_ret (v:=.tuple #[.agg #[.int .i64 τ.σ.kind,.int .i64 τ.σ.fault,.int .i64 τ.σ.place,.string so,.int .i64 τ.σ.steps],.slice (some ⟨gg,0,none⟩) 64 64,.int .i64 0]) ?_ rfl ?_
   ·simp[results,Tryz.results26,go_sem,i0,i1,i2,i3,i4,hH3]
   ·refine Or.inr (Or.inr ⟨HNB.out,aY,HENT.out,?_⟩);unfold u5
    refine⟨n,τ,F1,F2,F3,?_,gg,by omega,?_,by rw[HSO.out]⟩
    ·exact(aH (aH (aH (aH (aH F4 0 _) 1 _) 2 _) 3 _) 4 _).alloc (by simp;omega) _
    ·rw[Below.heap_alloc _ _ _ (by simp;omega)];have hne:gg≠w.heap.size:=(by omega);rw[heap_setCell_other _ ⟨w.heap.size,4,none⟩ _ _ hne,heap_setCell_other _ ⟨w.heap.size,3,none⟩ _ _ hne,heap_setCell_other _ ⟨w.heap.size,2,none⟩ _ _ hne,heap_setCell_other _ ⟨w.heap.size,1,none⟩ _ _ hne,heap_setCell_other _ ⟨w.heap.size,0,none⟩ _ _ hne];exact F5
def qJ (m:Nat):Nat→Nat
 |0=>m
 |j+1=>qJ m j/250
theorem ud (m:Nat):∀j,qJ m j≤m
 |0=>Nat.le_refl _
 |j+1=>Nat.le_trans (Nat.div_le_self _ _) (ud m j)
def wh (m i:Nat):Int:=1+((qJ m (i%3)%250:Nat):Int)
theorem sM (m i:Nat)(hm:m≤4611686018427387904)(hi:i≤9223372036854775807)(w:World):
  Calls Tryz.prog 18 #[.int .i64 (m:Int),.int .i64 (i:Int)] w fun e w'=>e=.returned (.int .u8 (wh m i))∧w'=w:=by
 have H3:Hid ((i:Int)%3=((i%3:Nat):Int)):=by show(i:Int)%3=((i%3:Nat):Int);omega
 go_in;go_wp2_with fail
 go_loopw [0,5] (fun a k wr=>∃j:Nat,j≤i%3∧a=.int .i64 (qJ m j:Int)∧k=.int .i64 ((i%3-j:Nat):Int)∧wr=w) (fun _ k _=>(intOf k).toNat)
 case atStart=>exact ⟨0,by omega,rfl,by rw[H3.out];rfl,rfl⟩
 case round=>
  obtain⟨j,hj,rfl,rfl,hwr⟩:=hrel
  obtain rfl:=hwr.symm;have hd:=ud m j;have hd2:=ud m (j+1);have HS:Hid (((qJ m j:Nat):Int)/250=((qJ m (j+1):Nat):Int)):=by show _=_;show((qJ m j:Nat):Int)/250=((qJ m j/250:Nat):Int);omega
  by_cases hlt:j<i%3
  ·obtain⟨q,hq⟩:∃q:Nat,i%3-j=q+1:=⟨i%3-j-1,by omega⟩
   have HQ:Hid ((i%3-(j+1):Nat)=q):=by show i%3-(j+1)=q;omega
   have HQ':=hid hq;rw[hq];generalize qJ m j=a at*;have hpos:(0:Int)<(q:Int)+1:=(by omega);have hq2:(q:Int)≤2:=(by omega);have hlt':=hlt;clear hlt hq hj;go_wp2;go_roundw
   case rel=>exact ⟨j+1,by omega,by rw[←HS.out],by rw[HQ.out],by first|rfl|trivial⟩
   case measure=>simp [intOf]
  ·have e:j=i%3:=(by omega);subst e;rw[Nat.sub_self];have HR:Hid (wh m i=1+((qJ m (i%3)%250:Nat):Int)):=rfl;have HA:Hid (∀a:Nat,(1:Int)+((a%250:Nat):Int)=1+(a:Int)%250):=fun a=>by omega
   generalize qJ m (i%3)=a at*;go_wp2;go_ret
   exact⟨by rw[HR.out,HA.out];rfl,rfl⟩
section
variable {P:Program} (w:World)
end
section
variable {P:Program} {w:World}
end
theorem cG (w:World)(cs:List Value)(t:TypeId):∀(j:Nat) (u:Value),cs[j]?=some u→(w.alloc (.cells cs.toArray t)).cell? ((⟨w.heap.size,0,none⟩:Addr).add j)=some u:=by
 intro j u hj;have hadd:(⟨w.heap.size,0,none⟩:Addr).add j=⟨w.heap.size,j,none⟩:=by unfold Addr.add;split<;>simp_all
 rw[hadd,World.cell?_alloc_new];simpa using hj
def IX (r:Nat):TypeId:=if r=0∨r=8 then 39 else if r=1 then 32 else if r=2∨r=9 then 41 else if r=3 then 57 else 3
structure BK (base M:Nat) (w:World) (F:Nat→Value) (X:Nat→List Value):Prop where
 cell:∀r,r<10→w.cell? ⟨M,r,none⟩=some (F r)
 thaw:∀j,w.frozen? ⟨M,j,none⟩=false
 own:∀r,r<10→w.ownsRow base (IX r) 1 (F r) (X r).length (X r)
 apart:∀r s,r<10→s<10→r≠s→(F r).ownBlock=none∨(F r).ownBlock≠(F s).ownBlock
 lt:M<base
 le:base≤w.heap.size
def rX (M:Nat)(F:Nat→Value)(g:Nat):Prop:=g≠M∧∀r,r<10→(F r).ownBlock≠some g
def Aw (M:Nat)(F:Nat→Value)(w:World)(v:Value):Prop:=∀g,v.ownBlock=some g→g<w.heap.size∧rX M F g
inductive gO (w:World) (v:Value) (n:Nat) (f:Nat→Int):Prop
 |full (g o cap:Nat) (hv:v=.slice (some ⟨g,o,none⟩) n cap) (hc:∀i,i<n→w.cell? ⟨g,o+i,none⟩=some (.int .i64 (f i))) (hr:n≤cap) (hr':cap≤9223372036854775807) (h0:0<n):gO w v n f
 |bare (p:Option Addr) (cap:Nat) (hv:v=.slice p 0 cap) (hL:n=0):gO w v n f
structure BD (M:Nat) (w:World) (F:Nat→Value) (X:Nat→List Value):Prop where
 bytes:∀(i:Nat) (v:Value),(X 0)[i]?=some v→∃m n:Nat,(X 4)[i]?=some (Value.int .i64 (m:Int))∧m≤(X 4).length∧n≤9223372036854775807∧b9 w v n (fun k=>wh m k)∧Aw M F w v
 numbers:∀(i:Nat) (v:Value),(X 1)[i]?=some v→∃(m:Int) (n:Nat),(X 5)[i]?=some (Value.int .i64 m)∧n≤9223372036854775807∧gO w v n (fun _=>m)∧Aw M F w v
 JK:∀(i:Nat) (v:Value),(X 8)[i]?=some v→∃n:Nat,n≤9223372036854775807∧b9 w v n (fun _=>251)∧Aw M F w v
 IY:X 2=[]
 IZ:X 3=[]
 J0:X 9=[]
 J1:(X 0).length=(X 4).length
 J2:(X 1).length=(X 5).length
theorem b9.keep {w w':World}{v:Value}{n:Nat}{c:Nat→Int}(h:b9 w v n c)(hb:∀g,v.ownBlock=some g→g<w.heap.size→w'.heap[g]?=w.heap[g]?):b9 w' v n c:=by
 cases h with
 |full cb co cap hv C=>
  refine .full cb co cap hv ⟨fun i hi=> ?_,C.room,C.room',C.ny⟩;rw[World.cell?_of_block (w:=w) (a:=⟨cb,co+i,none⟩) (hb cb (by rw[hv];rfl) C.blk)];exact C.cell i hi
 |bare p cap hv hL=>exact .bare p cap hv hL
theorem gO.keep {w w':World}{v:Value}{n:Nat}{f:Nat→Int}(h:gO w v n f)(hb:∀g,v.ownBlock=some g→g<w.heap.size→w'.heap[g]?=w.heap[g]?):gO w' v n f:=by
 cases h with
 |full g o cap hv hc hr hr' h0=>
  refine .full g o cap hv (fun i hi=> ?_) hr hr' h0;rw[World.cell?_of_block (w:=w) (a:=⟨g,o+i,none⟩) (hb g (by rw[hv];rfl) (block_lt_of_cell (hc 0 h0)))];exact hc i hi
 |bare p cap hv hL=>exact .bare p cap hv hL
def Rec (X:Nat→List Value)(v:Value):Prop:=v∈X 0∨v∈X 1∨v∈X 8
theorem BD.keep {M:Nat}{w w':World}{F F':Nat→Value}{X:Nat→List Value}(h:BD M w F X)(hs:w.heap.size≤w'.heap.size)(hF:∀g,g<w.heap.size→rX M F g→rX M F' g)(hb:∀v g,Rec X v→v.ownBlock=some g→g<w.heap.size→rX M F g→w'.heap[g]?=w.heap[g]?):BD M w' F' X where
 bytes:=fun i v hv=>by
  obtain⟨m,n,h1,h2,h3,h4,h5⟩:=h.bytes i v hv
  exact⟨m,n,h1,h2,h3,h4.keep (fun g hg hl=>hb v g (Or.inl (List.mem_of_getElem? hv)) hg hl (h5 g hg).2),fun g hg=>⟨by have:=(h5 g hg).1;omega,hF g (h5 g hg).1 (h5 g hg).2⟩⟩
 numbers:=fun i v hv=>by
  obtain⟨m,n,h1,h2,h3,h4⟩:=h.numbers i v hv
  exact⟨m,n,h1,h2,h3.keep (fun g hg hl=>hb v g (Or.inr (Or.inl (List.mem_of_getElem? hv))) hg hl (h4 g hg).2),fun g hg=>⟨by have:=(h4 g hg).1;omega,hF g (h4 g hg).1 (h4 g hg).2⟩⟩
 JK:=fun i v hv=>by
  obtain⟨n,h1,h2,h3⟩:=h.JK i v hv
  exact⟨n,h1,h2.keep (fun g hg hl=>hb v g (Or.inr (Or.inr (List.mem_of_getElem? hv))) hg hl (h3 g hg).2),fun g hg=>⟨by have:=(h3 g hg).1;omega,hF g (h3 g hg).1 (h3 g hg).2⟩⟩
 IY:=h.IY
 IZ:=h.IZ
 J0:=h.J0
 J1:=h.J1
 J2:=h.J2
theorem BD.lt {M:Nat}{w:World}{F:Nat→Value}{X:Nat→List Value}(h:BD M w F X){v:Value}(hv:Rec X v){g:Nat}(hg:v.ownBlock=some g):g<w.heap.size∧rX M F g:=by
 rcases hv with hv|hv|hv
 ·obtain⟨i,hi⟩:=List.getElem?_of_mem hv
  obtain⟨m,n,_,_,_,_,h5⟩:=h.bytes i v hi
  exact h5 g hg
 ·obtain⟨i,hi⟩:=List.getElem?_of_mem hv
  obtain⟨m,n,_,_,_,h5⟩:=h.numbers i v hi
  exact h5 g hg
 ·obtain⟨i,hi⟩:=List.getElem?_of_mem hv
  obtain⟨n,_,_,h5⟩:=h.JK i v hi
  exact h5 g hg
theorem BK.same {base M:Nat}{w w':World}{F:Nat→Value}{X:Nat→List Value}(h:BK base M w F X)(hs:w.heap.size≤w'.heap.size)(hb:∀k,k<w.heap.size→w'.heap[k]?=w.heap[k]?):BK base M w' F X where
 cell:=fun r hr=>(World.cell?_of_block (w:=w) (a:=⟨M,r,none⟩) (hb M (Nat.lt_of_lt_of_le h.lt h.le))).trans (h.cell r hr)
 thaw:=fun j=>(World.frozen?_of_block (w:=w) (a:=⟨M,j,none⟩) (hb M (Nat.lt_of_lt_of_le h.lt h.le))).trans (h.thaw j)
 own:=fun r hr=>by
  refine⟨(h.own r hr).1,?_⟩
  rcases(h.own r hr).2 with hn|⟨g,cap,cur,hv,hg,hh,q⟩
  ·exact .inl hn
  ·exact .inr ⟨g,cap,cur,hv,hg,(hb g (Array.getElem?_eq_some_iff.1 hh).1).trans hh,q⟩
 apart:=h.apart
 lt:=h.lt
 le:=Nat.le_trans h.le hs
theorem BK.below {base M:Nat}{w w':World}{F:Nat→Value}{X:Nat→List Value}(h:BK base M w F X)(hB:Below w.heap.size w w'):BK base M w' F X:=h.same hB.size hB.block
theorem BD.below {M:Nat}{w w':World}{F:Nat→Value}{X:Nat→List Value}(h:BD M w F X)(hB:Below w.heap.size w w'):BD M w' F X:=h.keep hB.size (fun _ _ h=>h) (fun _ g _ _ hg _=>hB.block g hg)
def upd {α:Type}(F:Nat→α)(r:Nat)(v:α):Nat→α:=fun s=>if s=r then v else F s
theorem upd_same {α:Type}(F:Nat→α)(r:Nat)(v:α):upd F r v r=v:=if_pos rfl
theorem au {α:Type}(F:Nat→α){r s:Nat}(v:α)(h:s≠r):upd F r v s=F s:=if_neg h
theorem BK.grow {base M:Nat}{w w1:World}{F:Nat→Value}{X:Nat→List Value}(h:BK base M w F X)(r:Nat)(hr:r<10)(v':Value)(news:List Value)(hg:w.grownBy w1 (F r).ownBlock)
  (ho:w1.ownsRow base (IX r) 1 v' ((X r).length+news.length) (X r++news))(hat:v'.ownBlock=(F r).ownBlock∨v'.ownBlock=some w.heap.size):
  BK base M (w1.setCell ⟨M,r,none⟩ v') (upd F r v') (upd X r (X r++news)) where
 cell:=fun s hs=>by
  have hc:∀j,j<10→w1.cell? ⟨M,j,none⟩=some (F j):=fun j hj=>hg.cell (a:=⟨M,j,none⟩) (h.cell j hj) (dA (h.own r hr) h.lt)
  by_cases e:s=r
  ·subst e;rw[upd_same];exact World.cell?_setCell_same _ _ _ (hc s hs)
  ·rw[au _ _ e,World.cell?_setCell_other _ _ _ _ (fun c=>e (by injection c with _ c2 _;exact c2.symm))];exact hc s hs
 thaw:=fun j=>by rw[World.frozen?_setCell,World.frozen?_of_block (w:=w) (a:=⟨M,j,none⟩) (hg.block M (Nat.lt_of_lt_of_le h.lt h.le) (dA (h.own r hr) h.lt))];exact h.thaw j
 own:=fun s hs=>by
  by_cases e:s=r
  ·subst e;rw[upd_same,upd_same,List.length_append];exact bn ho M s h.lt v'
  ·rw[au _ _ e,au _ _ e];exact bn (nv (h.own s hs) hg (h.apart r s hr hs (fun c=>e c.symm))) M r h.lt v'
 apart:=fun a b ha hb hne=>by
  have key:∀s,s<10→s≠r→v'.ownBlock=none∨v'.ownBlock≠(F s).ownBlock:=fun s hs xY=>by
   rcases hat with e|e
   ·rw[e];exact h.apart r s hr hs (fun c=>xY c.symm)
   ·right;rw[e];intro c;have:=((h.own s hs).lt _ c.symm).2;omega
  by_cases e1:a=r
  ·subst e1;rw[upd_same,au _ _ (fun c=>hne c.symm)];exact key b hb (fun c=>hne c.symm)
  ·rw[au _ _ e1];by_cases e2:b=r
   ·subst e2;rw[upd_same];rcases hat with e|e
    ·rw[e];exact h.apart a b ha hb hne
    ·rw[e]
     cases hv:(F a).ownBlock with
     |none=>exact Or.inl rfl
     |some k=>right;intro c;have:=((h.own a ha).lt k hv).2;injection c with c;omega
   ·rw[au _ _ e2];exact h.apart a b ha hb hne
 lt:=h.lt
 le:=by have:=hg.size;have:=h.le;simp;omega
theorem rX.grow {M:Nat}{F:Nat→Value}{g r:Nat}{v':Value}{w:World}(h:rX M F g)(hr:r<10)(hg:g<w.heap.size)(hat:v'.ownBlock=(F r).ownBlock∨v'.ownBlock=some w.heap.size):rX M (upd F r v') g:=by
 refine⟨h.1,fun s hs=> ?_⟩
 by_cases e:s=r
 ·subst e;rw[upd_same];rcases hat with e|e
  ·rw[e];exact h.2 s hs
  ·rw[e];intro c;injection c with c;omega
 ·rw[au _ _ e];exact h.2 s hs
theorem BD.grow {M:Nat}{w w1:World}{F:Nat→Value}{X:Nat→List Value}(d:BD M w F X)(r:Nat)(hr:r<10)(v':Value)(hg:w.grownBy w1 (F r).ownBlock)(hat:v'.ownBlock=(F r).ownBlock∨v'.ownBlock=some w.heap.size):
  BD M (w1.setCell ⟨M,r,none⟩ v') (upd F r v') X:=
 d.keep (by have:=hg.size;simp;omega) (fun g hl ho=>ho.grow (w:=w) hr hl hat) (fun _ g _ _ hl ho=>by
  rw[heap_setCell_other _ ⟨M,r,none⟩ _ _ ho.1];exact hg.block g hl (fun c=>ho.2 r hr c.symm))
structure RT where
 n:Nat
 row:Nat→Bool
 ty:Nat→TypeId
 sz:Nat
structure OB (T:RT) (M:Nat) (w:World) (F:Nat→Value) (X:Nat→List Value) (N:Nat→Nat):Prop where
 cell:∀r,r<T.n→w.cell? ⟨M,r,none⟩=some (F r)
 thaw:∀j,w.frozen? ⟨M,j,none⟩=false
 own:∀r,T.row r=true→w.ownsRow 0 (T.ty r) T.sz (F r) (N r) (X r)
 apart:∀r s,T.row r=true→T.row s=true→r≠s→(F r).ownBlock=none∨(F r).ownBlock≠(F s).ownBlock
 nM:∀r,T.row r=true→(F r).ownBlock≠some M
 lt:M<w.heap.size
 Ek:∀r,T.row r=true→r<T.n
def iB (T:RT)(M:Nat)(F:Nat→Value)(k:Nat):Prop:=k=M∨∃r,T.row r=true∧(F r).ownBlock=some k
section
variable {T:RT} {M:Nat} {w w':World} {F:Nat→Value} {X:Nat→List Value} {N:Nat→Nat}
theorem OB.in (h:OB T M w F X N){k:Nat}(hk:iB T M F k):k<w.heap.size:=by
 rcases hk with rfl|⟨r,hr,e⟩
 ·exact h.lt
 ·exact aL (h.own r hr) e
theorem OB.keep (h:OB T M w F X N)(hs:w.heap.size≤w'.heap.size)(hb:∀k,iB T M F k→w'.heap[k]?=w.heap[k]?):OB T M w' F X N where
 cell:=fun r hr=>(World.cell?_of_block (w:=w) (a:=⟨M,r,none⟩) (hb M (Or.inl rfl))).trans (h.cell r hr)
 thaw:=fun j=>(World.frozen?_of_block (w:=w) (a:=⟨M,j,none⟩) (hb M (Or.inl rfl))).trans (h.thaw j)
 own:=fun r hr=>ay (h.own r hr) (fun b e=>hb b (Or.inr ⟨r,hr,e⟩))
 apart:=h.apart
 nM:=h.nM
 lt:=Nat.lt_of_lt_of_le h.lt hs
 Ek:=h.Ek
theorem OB.set (h:OB T M w F X N)(j:Nat)(hj:T.row j=false)(u:Value):OB T M (w.setCell ⟨M,j,none⟩ u) (upd F j u) X N:=by
 have ne:∀r,T.row r=true→upd F j u r=F r:=fun r hr=>au _ _ (fun e=>by rw[e,hj]at hr;cases hr)
 exact{
  cell:=fun r hr=>by
   by_cases e:r=j
   ·subst e;rw[upd_same];exact World.cell?_setCell_same _ _ _ (h.cell r hr)
   ·rw[au _ _ e,World.cell?_setCell_other _ _ _ _ (fun c=>e (by injection c with _ c2 _;exact c2.symm))];exact h.cell r hr
  thaw:=fun i=>by rw[World.frozen?_setCell];exact h.thaw i
  own:=fun r hr=>by rw[ne r hr];exact ay (h.own r hr) (fun b e=>heap_setCell_other w ⟨M,j,none⟩ b u (fun c=>h.nM r hr (by rw[e,c])))
  apart:=fun r s hr hs=>by rw[ne r hr,ne s hs];exact h.apart r s hr hs
  nM:=fun r hr=>by rw[ne r hr];exact h.nM r hr
  lt:=by rw[World.size_setCell];exact h.lt
  Ek:=h.Ek}
theorem OB.grow {w1:World}(h:OB T M w F X N)(r:Nat)(hr:T.row r=true)(v':Value)(news:List Value)(m:Nat)(hg:w.grownBy w1 (F r).ownBlock)(ho:w1.ownsRow 0 (T.ty r) T.sz v' (N r+m) (X r++news))(hat:v'.ownBlock=(F r).ownBlock∨v'.ownBlock=some w.heap.size):
  OB T M (w1.setCell ⟨M,r,none⟩ v') (upd F r v') (upd X r (X r++news)) (upd N r (N r+m)):=by
 have hM:some M≠(F r).ownBlock:=fun c=>h.nM r hr c.symm
 have hvM:v'.ownBlock≠some M:=fun c=>by
  rcases hat with e|e
  ·exact hM (by rw[←e,c])
  ·rw[e]at c;injection c with c;have:=h.lt;omega
 have key:∀s,T.row s=true→s≠r→v'.ownBlock=none∨v'.ownBlock≠(F s).ownBlock:=fun s hs xY=>by
  rcases hat with e|e
  ·rw[e];exact h.apart r s hr hs (fun c=>xY c.symm)
  ·right;rw[e];intro c;have:=aL (h.own s hs) c.symm;omega
 exact{
  cell:=fun s hs=>by
   have hc:∀j,j<T.n→w1.cell? ⟨M,j,none⟩=some (F j):=fun j hj=>hg.cell (a:=⟨M,j,none⟩) (h.cell j hj) hM
   by_cases e:s=r
   ·subst e;rw[upd_same];exact World.cell?_setCell_same _ _ _ (hc s hs)
   ·rw[au _ _ e,World.cell?_setCell_other _ _ _ _ (fun c=>e (by injection c with _ c2 _;exact c2.symm))];exact hc s hs
  thaw:=fun j=>by rw[World.frozen?_setCell,World.frozen?_of_block (w:=w) (a:=⟨M,j,none⟩) (hg.block M h.lt hM)];exact h.thaw j
  own:=fun s hs=>by
   by_cases e:s=r
   ·subst e;rw[upd_same,upd_same,upd_same];exact ay ho (fun b eb=>heap_setCell_other w1 ⟨M,s,none⟩ b v' (fun c=>hvM (by rw[eb,c])))
   ·rw[au _ _ e,au _ _ e,au _ _ e];exact ay (nv (h.own s hs) hg (h.apart r s hr hs (fun c=>e c.symm))) (fun b eb=>heap_setCell_other w1 ⟨M,r,none⟩ b v' (fun c=>h.nM s hs (by rw[eb,c])))
  apart:=fun a b ha hb hne=>by
   by_cases e1:a=r
   ·subst e1;rw[upd_same,au _ _ (fun c=>hne c.symm)];exact key b hb (fun c=>hne c.symm)
   ·rw[au _ _ e1];by_cases e2:b=r
    ·subst e2;rw[upd_same];rcases key a ha e1 with c|c
     ·cases hv:(F a).ownBlock with
      |none=>exact Or.inl rfl
      |some k=>right;rw[c];intro c;cases c
     ·exact Or.inr (fun d=>c d.symm)
    ·rw[au _ _ e2];exact h.apart a b ha hb hne
  nM:=fun s hs=>by
   by_cases e:s=r
   ·subst e;rw[upd_same];exact hvM
   ·rw[au _ _ e];exact h.nM s hs
  lt:=by have:=hg.size;have:=h.lt;rw[World.size_setCell];omega
  Ek:=h.Ek}
theorem OB.stored (h:OB T M w F X N)(r:Nat)(hr:T.row r=true)(g cap:Nat)(hF:F r=.slice (some ⟨g,0,none⟩) (N r) cap)(j:Nat)(u:Value):OB T M (w.setCell ⟨g,j,none⟩ u) F (upd X r ((X r).set j u)) N:=by
 have hg:(F r).ownBlock=some g:=by rw[hF];rfl
 have hne:g≠M:=fun c=>h.nM r hr (by rw[hg,c])
 exact{
  cell:=fun s hs=>(World.cell?_setCell_other _ _ _ _ (fun c=>hne (by injection c with c1 _ _))).trans (h.cell s hs)
  thaw:=fun i=>by rw[World.frozen?_setCell];exact h.thaw i
  own:=fun s hs=>by
   by_cases e:s=r
   ·subst e;rw[upd_same,hF]
    exact((hF▸h.own s hs).stored j u).1
   ·rw[au _ _ e];refine ay (h.own s hs) (fun b eb=>heap_setCell_other w ⟨g,j,none⟩ b u (fun c=> ?_));rcases h.apart r s hr hs (fun c=>e c.symm)with d|d
    ·rw[hg]at d;cases d
    ·exact d (by rw[hg,eb,c])
  apart:=h.apart
  nM:=h.nM
  lt:=by rw[World.size_setCell];exact h.lt
  Ek:=h.Ek}
theorem iB.grow {r:Nat}{v':Value}{k:Nat}(hat:v'.ownBlock=(F r).ownBlock∨v'.ownBlock=some w.heap.size)(hr:T.row r=true)(h:iB T M (upd F r v') k):iB T M F k∨k=w.heap.size:=by
 rcases h with h|⟨s,hs,e⟩
 ·exact Or.inl (Or.inl h)
 ·by_cases c:s=r
  ·subst c;rw[upd_same]at e;rcases hat with a|a
   ·exact Or.inl (Or.inr ⟨s,hs,by rw[←a,e]⟩)
   ·rw[a]at e;injection e with e;exact Or.inr e.symm
  ·rw[au _ _ c]at e;exact Or.inl (Or.inr ⟨s,hs,e⟩)
end
def gS:RT:=⟨75,fun r=>r==3||r==4,fun r=>if r=3 then 149 else 67,3⟩
def kE (h:HS)(r:Nat):Nat:=if r=3 then h.kept.length else if r=4 then h.found.length else 0
def iw (h:HS):ByteArray:=strOfNums (gQ h.az)
structure DD where
 cb:Nat
 cc:Nat
 F:Nat→Value
 X:Nat→List Value
def ja (d:DD)(g:PG)(h:HS)(j:Nat):Value:=
 if j=0 then .slice (some ⟨d.cb,0,none⟩) g.L d.cc else if j=1 then .int .i64 g.fuel else if j=2 then .int .u64 h.aa else if j=3 then d.F 3 else if j=4 then d.F 4
 else if j=69 then .int .i64 h.tries else if j=70 then .int .i64 h.hangs else if j=71 then .int .i64 h.entry else if j=72 then .int .i64 h.changes else if j=73 then .string (iw h)else if j=74 then .bool false else .int .u8 (aS h.kept (j-5):Nat)
def J4 (w:World)(U:Nat→Prop)(d:DD)(Y:Nat)(b:Bool)(i:Nat)(k:dQ):Prop:=
 (d.X 3)[i*3]?=some (.string k.text)∧(d.X 3)[i*3+2]?=some (.bool b)∧∃g,(d.X 3)[i*3+1]?=some (.slice (some ⟨g,0,none⟩) 64 64)∧(∀p,p<64→w.cell? ⟨g,p,none⟩=some (.int .u8 (k.aV p)))∧¬iB gS Y d.F g∧U g
structure DK (w:World) (U:Nat→Prop) (Y:Nat) (d:DD) (g:PG) (kept:List dQ) (wk:Nat→Bool):Prop where
 code:Laid w d.cb 0 g.L d.cc g.c
 dX:¬iB gS Y d.F d.cb
 kept:∀i k,kept[i]?=some k→J4 w U d Y (wk i) i k
 dR:∀k,iB gS Y d.F k→U k
 kW:U d.cb
 lt:∀k,U k→k<w.heap.size
 low:∀k,U k→3≤k
structure DU (w:World) (U:Nat→Prop) (Y:Nat) (d:DD) (g:PG) (h:HS):Prop where
 ob:OB gS Y w d.F d.X (kE h)
 val:∀j,j<75→d.F j=ja d g h j
 x4:d.X 4=bH h.found
 dk:DK w U Y d g h.kept h.worked
section
variable {w w':World} {U V:Nat→Prop} {Y:Nat} {d:DD} {g:PG} {h:HS} {kept:List dQ} {wk:Nat→Bool}
theorem DU.cell (p:DU w U Y d g h)(j:Nat)(hj:j<75):w.cell? ⟨Y,j,none⟩=some (ja d g h j):=(p.ob.cell j hj).trans (by rw[p.val j hj])
theorem DK.keep (p:DK w U Y d g kept wk)(hb:∀k,U k→¬iB gS Y d.F k→w'.heap[k]?=w.heap[k]?){d':DD}(hX:∀(i:Nat) (u:Value),(d.X 3)[i]?=some u→(d'.X 3)[i]?=some u)(hc:d'.cb=d.cb∧d'.cc=d.cc)(hO:∀k,U k→iB gS Y d'.F k→iB gS Y d.F k)(hU':∀k,iB gS Y d'.F k→V k)(hUV:∀k,U k→V k)(hl:∀k,V k→k<w'.heap.size)(hl2:∀k,V k→3≤k):DK w' V Y d' g kept wk where
 code:=by rw[hc.1,hc.2];exact p.code.of_block (hb _ p.kW p.dX)
 dX:=by rw[hc.1];exact fun c=>p.dX (hO _ p.kW c)
 kept:=fun i k hk=>by
  obtain⟨h1,h2,b,h3,h4,h5,h6⟩:=p.kept i k hk
  exact⟨hX _ _ h1,hX _ _ h2,b,hX _ _ h3,fun q hq=>(World.cell?_of_block (w:=w) (a:=⟨b,q,none⟩) (hb b h6 h5)).trans (h4 q hq),fun c=>h5 (hO b h6 c),hUV b h6⟩
 dR:=hU'
 kW:=by rw[hc.1];exact hUV _ p.kW
 lt:=hl
 low:=hl2
theorem DK.two (p:DK w U Y d g kept wk):3≤w.heap.size:=by
 have h1:=p.low _ p.kW;have h2:=p.lt _ p.kW;omega
theorem DU.keep (p:DU w U Y d g h)(hs:w.heap.size≤w'.heap.size)(hb:∀k,U k→w'.heap[k]?=w.heap[k]?)(hUV:∀k,U k→V k)(hl:∀k,V k→k<w'.heap.size)(hl2:∀k,V k→3≤k):DU w' V Y d g h:=
 ⟨p.ob.keep hs (fun k hk=>hb k (p.dk.dR k hk)),p.val,p.x4,p.dk.keep (fun k hk _=>hb k hk) (fun _ _ e=>e) ⟨rfl,rfl⟩ (fun _ _ c=>c) (fun k hk=>hUV k (p.dk.dR k hk)) hUV hl hl2⟩
theorem DK.LO (p:DK w U Y d g kept wk)(hs:w.heap.size≤w'.heap.size):(∀k,Gr U w w' k→k<w'.heap.size)∧∀k,Gr U w w' k→3≤k:=
 ⟨fun k hk=>hk.elim (fun c=>Nat.lt_of_lt_of_le (p.lt k c) hs) (fun c=>c.2),fun k hk=>hk.elim (p.low k) (fun c=>by have:=p.two;omega)⟩
theorem DU.gr (p:DU w U Y d g h)(b:Below w.heap.size w w'):DU w' (Gr U w w') Y d g h:=
 p.keep b.size (fun k hk=>b.block k (p.dk.lt k hk)) (fun _ h=>Or.inl h) (p.dk.LO b.size).1 (p.dk.LO b.size).2
theorem uu {i:Nat}(hi:gS.row i=false)(u:Value)(F:Nat→Value)(k:Nat):iB gS Y (upd F i u) k↔iB gS Y F k:=by
 have:∀r,gS.row r=true→upd F i u r=F r:=fun r hr=>au _ _ (fun e=>by rw[e,hi]at hr;cases hr)
 exact or_congr Iff.rfl ⟨fun⟨r,a,b⟩=>⟨r,a,by rw[←this r a];exact b⟩,fun⟨r,a,b⟩=>⟨r,a,by rw[this r a];exact b⟩⟩
theorem DK.set (p:DK w U Y d g kept wk)(i:Nat)(hi:gS.row i=false)(u:Value):DK (w.setCell ⟨Y,i,none⟩ u) U Y {d with F:=upd d.F i u} g kept wk:=
 p.keep (fun k _ hk=>heap_setCell_other w ⟨Y,i,none⟩ k u (fun c=>hk (Or.inl c))) (fun _ _ e=>e) ⟨rfl,rfl⟩ (fun k _ c=>(uu hi u d.F k).1 c) (fun k c=>p.dR k ((uu hi u d.F k).1 c)) (fun _ c=>c) (fun k hk=>by rw[World.size_setCell];exact p.lt k hk) p.low
theorem DU.set (p:DU w U Y d g h)(i:Nat)(hi:gS.row i=false)(u:Value)(h':HS)(hk:h'.kept=h.kept)(hf:h'.found=h.found)(hw:h'.worked=h.worked)(hv:∀j,j<75→ja d g h' j=if j=i then u else ja d g h j):DU (w.setCell ⟨Y,i,none⟩ u) U Y {d with F:=upd d.F i u} g h':=by
 have hn:kE h'=kE h:=by unfold kE;rw[hk,hf]
 have hi34:i≠3∧i≠4:=⟨(fun e=>by rw[e]at hi;cases hi),(fun e=>by rw[e]at hi;cases hi)⟩;have hd:∀j,ja {d with F:=upd d.F i u} g h' j=ja d g h' j:=fun j=>by
  unfold ja;dsimp only;rw[au _ _ hi34.1.symm,au _ _ hi34.2.symm]
 refine⟨by rw[hn];exact p.ob.set i hi u,fun j hj=> ?_,by rw[hf];exact p.x4,by rw[hk,hw];exact p.dk.set i hi u⟩
 rw[hd,hv j hj];show upd d.F i u j=_;unfold upd;split
 ·rfl
 ·exact p.val j hj
theorem DK.grow {w1:World}{r:Nat}(p:DK w U Y d g kept wk)(ob:OB gS Y w d.F d.X (kE h))(hr:gS.row r=true)(v':Value)(x:List Value)(hg:w.grownBy w1 (d.F r).ownBlock)(hat:v'.ownBlock=(d.F r).ownBlock∨v'.ownBlock=some w.heap.size)(hlt:∀k,v'.ownBlock=some k→k<w1.heap.size):
  DK (w1.setCell ⟨Y,r,none⟩ v') (Gr U w w1) Y {d with F:=upd d.F r v',X:=upd d.X r (d.X r++x)} g kept wk:=by
 have hz:(w1.setCell ⟨Y,r,none⟩ v').heap.size=w1.heap.size:=World.size_setCell _ _ _;have hgu:=p.LO hg.size;refine p.keep (fun k hk hn=> ?_) ?_ ⟨rfl,rfl⟩ (fun k hk c=> ?_) (fun k c=> ?_) (fun _ c=>Or.inl c) (fun k hk=>by rw[hz];exact hgu.1 k hk) hgu.2
 ·rw[heap_setCell_other w1 ⟨Y,r,none⟩ k v' (fun c=>hn (Or.inl c))];exact hg.block k (p.lt k hk) (fun c=>hn (Or.inr ⟨r,hr,c.symm⟩))
 ·intro i u e
  show(upd d.X r (d.X r++x) 3)[i]?=_
  unfold upd;split
  ·rename_i c;subst c;rw[List.getElem?_append_left (List.getElem?_eq_some_iff.1 e).1];exact e
  ·exact e
 ·rcases iB.grow (w:=w) hat hr c with e|e
  ·exact e
  ·have:=p.lt k hk;omega
 ·rcases iB.grow (w:=w) hat hr c with e|e
  ·exact Or.inl (p.dR k e)
  ·subst e;rcases c with c|⟨s,hs,c⟩
   ·have:=ob.lt;omega
   ·dsimp only at c;by_cases q:s=r
    ·subst q;rw[upd_same]at c;exact Or.inr ⟨Nat.le_refl _,hlt _ c⟩
    ·rw[au _ _ q]at c;have:=aL (ob.own s hs) c;omega
theorem DK.add (p:DK w U Y d g kept wk)(k:dQ)(e:J4 w U d Y (wk kept.length) kept.length k):DK w U Y d g (kept++[k]) wk:=
 ⟨p.code,p.dX,fun i x hx=>(by
  rcases gA hx with⟨_,hx⟩|⟨rfl,rfl⟩
  ·exact p.kept i x hx
  ·exact e),p.dR,p.kW,p.lt,p.low⟩
end
structure bu (U:Nat→Prop) (Y:Nat) (g:PG) (h':HS) (w w':World):Prop where
 fr:Fr U w w'
 du:∃d,DU w' (Gr U w w') Y d g h'
theorem bu.then {U:Nat→Prop}{Y:Nat}{g:PG}{h1 h2:HS}{w w1 w2:World}(a:bu U Y g h1 w w1)(b:bu (Gr U w w1) Y g h2 w1 w2):bu U Y g h2 w w2:=by
 refine⟨a.fr.trans b.fr,?_⟩
 obtain⟨d,p⟩:=b.du
 rw[mK a.fr.size b.fr.size]at p
 exact⟨d,p⟩
theorem bu.of {U:Nat→Prop}{Y:Nat}{d:DD}{g:PG}{h:HS}{w w':World}(p:DU w U Y d g h)(b:Below w.heap.size w w'):bu U Y g h w w':=⟨Fr.below b,d,p.gr b⟩
theorem wU (l:List (Bool×ByteArray))(b:Bool)(s:ByteArray):strOfNums (gQ l)++⟨#[UInt8.ofNat (letter b).toNat,32]⟩++strOfNums (ei (nums s))++⟨#[10]⟩=strOfNums (gQ (l++[(b,s)])):=by
 have hl:=uz l;have hx:=nN _ (bt s);have h1:nums ⟨#[UInt8.ofNat (letter b).toNat,32]⟩=[letter b,32]:=by cases b<;>rfl
 have h2:nums ⟨#[10]⟩=[10]:=rfl;apply eX;rw[bN,bN,bN,bz hl,bz hx,h1,h2,bz (uz _),Ax];show _=gQ l++(cI b s++gQ []);rw[sS];simp[sR,gQ]
section
variable {w w1:World} {U:Nat→Prop} {Y:Nat} {d:DD} {g:PG} {h:HS}
theorem zf (l:List Cr)(c:Cr):bH (l++[c])=bH l++[.string c.text,.int .i64 c.fault,.int .i64 c.place]:=by simp[bH]
theorem DU.KM (p:DU w U Y d g h)(c:Cr)(v':Value)(hg:w.grownBy w1 (d.F 4).ownBlock)(ho:w1.ownsRow 0 67 3 v' (h.found.length+1) (d.X 4++[.string c.text,.int .i64 c.fault,.int .i64 c.place]))(hat:v'.ownBlock=(d.F 4).ownBlock∨v'.ownBlock=some w.heap.size):
  DU (w1.setCell ⟨Y,4,none⟩ v') (Gr U w w1) Y {d with F:=upd d.F 4 v',X:=upd d.X 4 (d.X 4++[.string c.text,.int .i64 c.fault,.int .i64 c.place])} g {h with found:=h.found++[c]}:=by
 have hn:kE {h with found:=h.found++[c]}=upd (kE h) 4 (kE h 4+1):=by
  funext r
  unfold upd kE;by_cases e3:r=3
  ·subst e3;rfl
  ·by_cases e4:r=4
   ·subst e4;simp
   ·simp[e3,e4]
 refine⟨by rw[hn];exact p.ob.grow 4 rfl v' _ 1 hg ho hat,fun j hj=> ?_,?_,p.dk.grow p.ob rfl v' _ hg hat (fun k e=>aL ho e)⟩
 ·show upd d.F 4 v' j=_;unfold upd ja;dsimp only;by_cases e4:j=4
  ·subst e4;rfl
  ·have:=p.val j hj
   unfold ja at this;simp only[if_neg e4]at this⊢;by_cases e3:j=3
   ·subst e3;rfl
   ·simp only[if_neg e3]at this⊢;exact this
 ·dsimp only;rw[upd_same,p.x4,zf]
structure lG (w1:World) (V:Nat→Prop) (Y:Nat) (d1:DD) (g:PG) (kept:List dQ) (wk:Nat→Bool) (N:Nat→Nat) (k:Nat) (wr:World):Prop where
 ex:∃F,OB gS Y wr F d1.X N∧DK wr V Y {d1 with F:=F} g kept wk∧∀j,F j=if 5≤j∧j<5+k then .int .u8 (aS kept (j-5):Nat)else d1.F j
 fr:Fr V w1 wr
 sz:wr.heap.size=w1.heap.size
theorem lG.next {V:Nat→Prop}{d1:DD}{kept:List dQ}{wk:Nat→Bool}{N:Nat→Nat}{k:Nat}{wr:World}(b:lG w1 V Y d1 g kept wk N k wr)(hk:k<64):lG w1 V Y d1 g kept wk N (k+1) (wr.setCell ⟨Y,5+k,none⟩ (.int .u8 (aS kept k:Nat))):=by
 obtain⟨F,o,q,e⟩:=b.ex
 have hr:gS.row (5+k)=false:=by simp[gS];omega
 refine⟨⟨upd F (5+k) (.int .u8 (aS kept k:Nat)),o.set _ hr _,q.set _ hr _,fun j=> ?_⟩,b.fr.same (Fr.set (q.dR _ (Or.inl rfl)) _ _),by rw[World.size_setCell];exact b.sz⟩
 unfold upd;by_cases c:j=5+k
 ·subst c;rw[if_pos rfl,if_pos (by omega),Nat.add_sub_cancel_left]
 ·rw[if_neg c,e j];by_cases c2:5≤j∧j<5+k
  ·rw[if_pos c2,if_pos (by omega)]
  ·rw[if_neg c2,if_neg (by omega)]
theorem OB.same {T:RT}{M:Nat}{w':World}{F:Nat→Value}{X:Nat→List Value}{N:Nat→Nat}(h:OB T M w F X N)(e:w'.heap=w.heap):OB T M w' F X N:=h.keep (by rw[e];exact Nat.le_refl _) (fun k _=>by rw[e])
theorem DK.same {w':World}{kept:List dQ}{wk:Nat→Bool}(p:DK w U Y d g kept wk)(e:w'.heap=w.heap):DK w' U Y d g kept wk:=
 p.keep (fun k _ _=>by rw[e]) (fun _ _ c=>c) ⟨rfl,rfl⟩ (fun _ _ c=>c) p.dR (fun _ c=>c) (fun k hk=>by rw[e];exact p.lt k hk) p.low
theorem lG.drew {V:Nat→Prop}{d1:DD}{kept:List dQ}{wk:Nat→Bool}{N:Nat→Nat}{k:Nat}{wr:World}(b:lG w1 V Y d1 g kept wk N k wr):lG w1 V Y d1 g kept wk N k wr.drew:=by
 obtain⟨F,o,q,e⟩:=b.ex
 exact⟨⟨F,o.same rfl,q.same rfl,e⟩,⟨b.fr.os,b.fr.tape,b.fr.output,b.fr.size,b.fr.block⟩,b.sz⟩
end
structure Sm (w w':World):Prop where
 heap:w'.heap=w.heap
 os:w'.os=w.os
 tape:w'.tape=w.tape
 output:w'.output=w.output
theorem Sm.refl (w:World):Sm w w:=⟨rfl,rfl,rfl,rfl⟩
theorem Sm.trans {a b c:World}(h:Sm a b)(k:Sm b c):Sm a c:=⟨k.heap.trans h.heap,k.os.trans h.os,k.tape.trans h.tape,k.output.trans h.output⟩
theorem Sm.drewN {a b:World}(h:Sm a b)(n:Nat):Sm a (b.drewN n):=⟨h.heap,h.os,h.tape,h.output⟩
theorem Sm.below {a b:World}(h:Sm a b)(n:Nat):Below n a b:=⟨h.os,h.tape,h.output,by rw[h.heap];exact Nat.le_refl _,fun k _=>by rw[h.heap]⟩
theorem BK.sm {base M:Nat}{w w':World}{F:Nat→Value}{X:Nat→List Value}(h:BK base M w F X)(s:Sm w w'):BK base M w' F X:=h.below (s.below _)
theorem BD.sm {M:Nat}{w w':World}{F:Nat→Value}{X:Nat→List Value}(h:BD M w F X)(s:Sm w w'):BD M w' F X:=h.below (s.below _)
theorem BK.at {base M:Nat}{w:World}{F:Nat→Value}{X:Nat→List Value}(h:BK base M w F X)(r:Nat)(hr:r<10){i:Nat}(hi:i<(X r).length):
  ∃g cap,F r=.slice (some ⟨g,0,none⟩) (X r).length cap∧∀(i:Nat) (u:Value),(X r)[i]?=some u→w.cell? ⟨g,i,none⟩=some u:=by
 obtain⟨g,cap,h1,_,_,_,h5⟩:=iG (h.own r hr) (by omega)
 exact⟨g,cap,h1,h5⟩
theorem BK.head {base M:Nat}{w:World}{F:Nat→Value}{X:Nat→List Value}(h:BK base M w F X)(r:Nat)(hr:r<10):∃ao cap,F r=.slice ao (X r).length cap:=by
 rcases(h.own r hr).2 with⟨e,h0⟩|⟨g,cap,cur,hv,_⟩
 ·exact⟨none,0,by rw[h0];exact e⟩
 ·exact⟨_,_,hv⟩
end Go.Proofs.YtmpgjkhchfcjlaaGreatDoor
