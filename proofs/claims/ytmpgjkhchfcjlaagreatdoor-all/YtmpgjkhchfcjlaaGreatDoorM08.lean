import Derived.Test.YtmpgjkhchfcjlaaGreatDoorM07
namespace Go.Proofs.YtmpgjkhchfcjlaaGreatDoor
open Go.RowKit
set_option maxHeartbeats 1000000
set_option maxRecDepth 100000
def lQ (c:Nat→Int)(L:Nat)(n:Nat)(b:Bool):Prop:=
 (b=false∧cZ c L 80 19 n true)∨(b=true∧L≤80∧∃N,gq c L N 19∧n=cK (aT c N) L)
theorem iX (w:World)(v:Value)(L:Nat)(c:Nat→Int)(hby:∀i,i<L→0≤c i∧c i≤255)(C:b9 w v L c)(hT:bK w):
  Calls Tryz.prog 62 #[v] w fun e w'=>∃n b,lQ c L n b∧e=.returned (.tuple #[.int .i64 (n:Nat),.bool b])∧Below w.heap.size w w':=by
 go_in;go_wp2_with fail
 refine(qC w v L 80 19 c (by omega) (by omega) hby C hT).mono ?_
 rintro e w1 ⟨r,b,hF,rfl,B1⟩
 cases b with
 |true=>
  go_wp2_with fail
  go_ret2
  exact⟨r,false,Or.inl ⟨rfl,hF⟩,rfl,B1⟩
 |false=>
  obtain⟨rfl,h1,N,F⟩:=hF.fine
  cases C.below B1 with
  |bare p cap hv hL=>have:=F.pos;omega
  |full cb co cap hv C2=>
   subst hv;go_wp2_with fail
   refine(iV w1 cb co L cap N c (F.vp h1) C2 (hT.below B1)).mono ?_
   rintro e w2 ⟨rfl,hg,B2⟩;go_wp2_with fail
   refine(qD w2 w1.heap.size L _ hg (by omega)).mono ?_
   rintro e w3 ⟨rfl,rfl⟩;go_wp2_with fail
   go_ret2
   exact⟨_,true,Or.inr ⟨rfl,h1,N,F,rfl⟩,rfl,B1.trans (B2.mono B1.size)⟩
theorem yh (w:World)(v:Value)(L:Nat)(c:Nat→Int)(hby:∀i,i<L→0≤c i∧c i≤255)(C:b9 w v L c)(hT:bK w):
  Calls Tryz.prog 23 #[v] w fun e w'=>∃n b,lQ c L n b∧e=.returned (.tuple #[.int .i64 (n:Nat),.int .i64 (if b then 0 else 1)])∧Below w.heap.size w w':=by
 go_in;go_wp2_with fail
 refine(iX w v L c hby C hT).mono ?_
 rintro e w1 ⟨n,b,hC,rfl,B1⟩
 cases b with
 |true=>
  go_wp2_with fail
  go_ret2
  exact⟨n,true,hC,rfl,B1⟩
 |false=>
  go_wp2_with fail
  go_ret2
  exact⟨n,false,hC,rfl,B1⟩
def jR (c:Nat→Int)(L:Nat)(aY:Nat→Int):Prop:=
 (∃N,L≤80∧gq c L N 19∧aY=cP (aT c N) L)∨(∃N r,cZ c L 80 19 r true∧gq c L N 20∧bJ c N=true∧aY=jQ c N)
def u5 (c aY:Nat→Int)(input:ByteArray)(fuel:Int)(w:World)(e:Ending)(w':World):Prop:=
 ∃(n:Nat) (τ:RS),τ=after c aY fuel (jm input) n∧τ.σ.ended=true∧(∀m,m<n→(after c aY fuel (jm input) m).σ.ended=false)∧Below w.heap.size w w'∧
  ∃g,w.heap.size≤g∧w'.heap[g]?=some (.cells (fU τ.cnt 64).toArray 5 (0,0))∧e=.returned (.tuple #[.agg #[.int .i64 τ.σ.kind,.int .i64 τ.σ.fault,.int .i64 τ.σ.place,.string (strOfNums τ.σ.out),.int .i64 τ.σ.steps],.slice (some ⟨g,0,none⟩) 64 64,.int .i64 0])
def kj (input:ByteArray)(fuel:Int):Prop:=24<input.size∨fuel<0∨500<fuel
def refusal (n:Int):Ending:=.returned (.tuple #[.agg #[.int .i64 0,.int .i64 0,.int .i64 0,.string ⟨#[]⟩,.int .i64 0],.slice none 0 0,.int .i64 n])
theorem c5 {w:World}{g t:Nat}{a b c d e:Value}(h:w.heap[g]?=some (.cells #[a,b,c,d,e] t (0,0))):w.cell? ⟨g,0,none⟩=some a∧w.cell? ⟨g,1,none⟩=some b∧w.cell? ⟨g,2,none⟩=some c∧w.cell? ⟨g,3,none⟩=some d∧w.cell? ⟨g,4,none⟩=some e∧w.frozen? ⟨g,0,none⟩=false∧w.frozen? ⟨g,1,none⟩=false∧w.frozen? ⟨g,2,none⟩=false∧w.frozen? ⟨g,3,none⟩=false∧w.frozen? ⟨g,4,none⟩=false:=by
 refine⟨?_,?_,?_,?_,?_,?_,?_,?_,?_,?_⟩
 all_goals first|exact cell_of_row _ _ _ _ _ _ h|exact frozen_of_row _ _ _ _ _ h
theorem Kv {input:ByteArray}{fuel:Int}(h:kj input fuel):(decide ((24:Int)<input.size)=true∧(24:Int)<input.size)∨decide ((24:Int)<input.size)=false∧¬(24:Int)<input.size∧(decide (fuel<0)=true∨decide (fuel<0)=false∧(500:Int)<fuel∧decide ((500:Int)<fuel)=true):=by
 unfold kj at h;simp only[decide_eq_true_eq,decide_eq_false_iff_not];omega
theorem Kw {input:ByteArray}{fuel:Int}(h:¬kj input fuel):input.size≤24∧0≤fuel∧fuel≤500∧decide ((24:Int)<input.size)=false∧¬(24:Int)<input.size∧decide (fuel<0)=false∧¬fuel<0∧¬(500:Int)<fuel∧decide ((500:Int)<fuel)=false:=by
 unfold kj at h;simp only[decide_eq_false_iff_not];omega
def sH (c:Nat→Int)(L:Nat)(input:ByteArray)(fuel:Int)(w:World)(e:Ending)(w':World):Prop:=
 (gH c L false∧e=refusal 1∧Below w.heap.size w w')∨(gH c L true∧kj input fuel∧e=refusal 2∧Below w.heap.size w w')∨
 (¬kj input fuel∧∃aY,jR c L aY∧u5 c aY input fuel w e w')
theorem vJ (w:World)(cb co L cap:Nat)(c:Nat→Int)(C:Laid w cb co L cap c)(hT:bK w)(hc:gH c L true):
  Calls Tryz.prog 65 #[.slice (some ⟨cb,co,none⟩) L cap] w fun e w'=>∃aY,jR c L aY∧∃g,w.heap.size≤g∧e=.returned (.slice (some ⟨g,0,none⟩) L L)∧w'.heap[g]?=some (.cells (il L aY).toArray 3 (0,0))∧Below w.heap.size w w':=by
 rcases hc with⟨_,hL,N,F⟩|⟨r,hF,h⟩
 ·exact(oU w cb co L cap N c (F.vp hL) C hT).mono fun e w' h=>⟨_,Or.inl ⟨N,hL,F,rfl⟩,h⟩
 ·rcases h with⟨_,N,F,hp⟩|⟨h,_⟩
  ·exact(qF w cb co L cap N 20 c F.sp F.last hp C hT).mono fun e w' h=>⟨_,Or.inr ⟨N,r,hF,F,hp,rfl⟩,h⟩
  ·cases h
theorem gH.good {c:Nat→Int}{L:Nat}(hc:gH c L true):0<L∧∃S,Good c L S:=by
 rcases hc with⟨_,hL,N,F⟩|⟨r,hF,h⟩
 ·exact⟨F.pos,_,F.good⟩
 ·rcases h with⟨_,N,F,hp⟩|⟨h,_⟩
  ·exact⟨F.pos,_,F.good⟩
  ·cases h
theorem jR.bounds {c:Nat→Int}{L:Nat}{aY:Nat→Int}(h:jR c L aY)(p:Nat)(hp:p<L): -1≤aY p∧aY p≤255:=by
 rcases h with⟨N,hL,F,rfl⟩|⟨N,r,_,F,_,rfl⟩
 ·exact mO _ L p hp hL
 ·exact vI F.sp p
theorem DS (w:World)(v:Value)(L:Nat)(c:Nat→Int)(hby:∀i,i<L→0≤c i∧c i≤255)(C:b9 w v L c)(hT:bK w)(input:ByteArray)(fuel:Int):
  Calls Tryz.prog 25 #[v,.string input,.int .i64 fuel] w (sH c L input fuel w):=by
 have B0:Below w.heap.size w (w.alloc (.cells #[.int .i64 0,.int .i64 0,.int .i64 0,.string ⟨#[]⟩,.int .i64 0] 74)):=(Below.refl _ _).alloc (Nat.le_refl _) _;go_in;go_wp2_with fail
 refine(yc _ v L c hby (C.below B0) (hT.below B0)).mono ?_
 rintro e w1 ⟨b,hcan,rfl,B1⟩;have hz0:(w.alloc (.cells #[.int .i64 0,.int .i64 0,.int .i64 0,.string ⟨#[]⟩,.int .i64 0] 74)).heap.size=w.heap.size+1:=by simp
 rw[hz0]at B1;have B01:=B0.trans (B1.mono (by omega));have hs1:=B1.size;rw[hz0]at hs1;have hH:w1.heap[w.heap.size]?=some (.cells #[.int .i64 0,.int .i64 0,.int .i64 0,.string ⟨#[]⟩,.int .i64 0] 74 (0,0)):=(B1.block _ (by omega)).trans (heap_alloc_new w _);by_cases hgood:b=true∧¬kj input fuel
 ·obtain⟨rfl,hnb⟩:=hgood
  have HNB:=hid hnb
  obtain⟨hin,hf0,hf1,d1,d1',d2,d2',d3,d3'⟩:=Kw hnb
  clear hnb
  obtain⟨hLpos,S,hgoodS⟩:=hcan.good
  cases C with
  |bare p cap hv hL=>omega
  |full cb co cap hv C=>
  subst hv;clear hH hs1;go_wp2_with fail
  refine(vJ w1 cb co L cap c (C.below B01) (hT.below B01) hcan).mono ?_
  rintro e w2 ⟨aY,hent,g,hg,rfl,hge,B2⟩;have B02:=B01.trans (B2.mono B01.size);have W02:=B1.trans (B2.mono (by have:=B1.size;rw[hz0]at this;omega));go_wp2_with fail
  refine(Ag w2 cb co L cap g 0 L c aY _ input fuel hgoodS (fun p hp=>hent.bounds p hp) hin hf0 hf1 (hT.below B02) (C.below B02).cell (fun i hi=> ?_) C.room).mono ?_
  ·rw[Nat.zero_add,cell_of_row w2 g _ _ _ _ hge,List.getElem?_toArray];exact jF L _ _ hi
  rintro e w3 ⟨n,τ,h1,h2,h3,B3,gg,hgg,hcov,rfl⟩;have B03:=B02.trans (B3.mono B02.size);have W03:=W02.trans (B3.mono (by have:=W02.size;rw[hz0]at this;omega));have hs3:=W03.size;rw[hz0]at hs3;have hH:w3.heap[w.heap.size]?=some (.cells #[.int .i64 0,.int .i64 0,.int .i64 0,.string ⟨#[]⟩,.int .i64 0] 74 (0,0)):=(W03.block _ (by omega)).trans (heap_alloc_new w _)
  obtain⟨i0,i1,i2,i3,i4,j0,j1,j2,j3,j4⟩:=c5 hH
  have hsz2:=B02.size;have HENT:=hid hent;have HFIN:Hid (τ=after c aY fuel (jm input) n∧τ.σ.ended=true∧(∀m,m<n→(after c aY fuel (jm input) m).σ.ended=false)∧Below w.heap.size w w3∧w3.heap[gg]?=some (.cells (fU τ.cnt 64).toArray 5 (0,0))∧w.heap.size<gg∧gg<w3.heap.size):=⟨h1,h2,h3,B03,hcov,by have:=W02.size;rw[hz0]at this;omega,(Array.getElem?_eq_some_iff.1 hcov).1⟩
  obtain⟨so,hso⟩:∃so,strOfNums τ.σ.out=so:=⟨_,rfl⟩
  rw[hso];have HSO:=hid hso;have hH3:w.heap.size<w3.heap.size:=by omega
  clear hso h1 h2 h3 B0 B1 B01 B2 B02 W02 B3 B03 W03 hH hcov hge hgoodS C hT hcan hent;go_wp2
  obtain⟨F1,F2,F3,F4,F5,F6,F7⟩:=HFIN.out
  refine bodyPost_ret (v:=.tuple #[.agg #[.int .i64 τ.σ.kind,.int .i64 τ.σ.fault,.int .i64 τ.σ.place,.string so,.int .i64 τ.σ.steps],.slice (some ⟨gg,0,none⟩) 64 64,.int .i64 0]) ?_ rfl ?_
  ·simp[results,Tryz.results25,go_sem,i0,i1,i2,i3,i4,hH3]
  ·refine Or.inr (Or.inr ⟨HNB.out,aY,HENT.out,?_⟩);unfold u5
   refine⟨n,τ,F1,F2,F3,?_,gg,by omega,?_,by rw[HSO.out]⟩
   ·exact(aH (aH (aH (aH (aH F4 0 _) 1 _) 2 _) 3 _) 4 _).alloc (by simp;omega) _
   ·rw[Below.heap_alloc _ _ _ (by simp;omega)];have hne:gg≠w.heap.size:=(by omega);rw[heap_setCell_other _ ⟨w.heap.size,4,none⟩ _ _ hne,heap_setCell_other _ ⟨w.heap.size,3,none⟩ _ _ hne,heap_setCell_other _ ⟨w.heap.size,2,none⟩ _ _ hne,heap_setCell_other _ ⟨w.heap.size,1,none⟩ _ _ hne,heap_setCell_other _ ⟨w.heap.size,0,none⟩ _ _ hne];exact F5
 ·have hH3:w.heap.size<w1.heap.size:=by omega
  obtain⟨i0,i1,i2,i3,i4,j0,j1,j2,j3,j4⟩:=c5 hH
  clear B0 B1 hH hz0 hs1
  cases b with
  |false=>
   go_wp2_with fail
   refine bodyPost_ret (v:=.tuple #[.agg #[.int .i64 0,.int .i64 0,.int .i64 0,.string ⟨#[]⟩,.int .i64 0],.slice none 0 0,.int .i64 1]) ?_ rfl ?_
   ·simp[results,Tryz.results25,go_sem,i0,i1,i2,i3,i4]
   ·exact Or.inl ⟨hcan,rfl,(aH (aH (aH (aH (aH B01 0 _) 1 _) 2 _) 3 _) 4 _)⟩
  |true=>
   have hb:=Classical.byContradiction fun h=>hgood ⟨rfl,h⟩
   have HB:=hid hb;clear hgood;rcases Kv hb with⟨d1,d1'⟩|⟨d1,d1',d2|⟨d2,d3,d3'⟩⟩;all_goals
    clear hb;go_wp2_with fail
    refine bodyPost_ret (v:=.tuple #[.agg #[.int .i64 0,.int .i64 0,.int .i64 0,.string ⟨#[]⟩,.int .i64 0],.slice none 0 0,.int .i64 2]) ?_ rfl ?_
    ·simp[results,Tryz.results25,go_sem,i0,i1,i2,i3,i4]
    ·exact Or.inr (Or.inl ⟨hcan,HB.out,rfl,(aH (aH (aH (aH (aH B01 0 _) 1 _) 2 _) 3 _) 4 _)⟩)
def Ah (x:Int):Bool:=x==1||x==14||x==15||x==16||x==17||x==19||x==20
theorem Bv (x:Int)(w:World):Calls Tryz.prog 143 #[.int .u8 x] w fun e w'=>e=.returned (.bool (Ah x))∧w'=w:=by
 unfold Ah
 cases h0:x==1
 rotate_left
 ·go_in;go_wp2;go_ret;exact⟨rfl,rfl⟩
 cases h1:x==14
 rotate_left
 ·go_in;go_wp2;go_ret;exact⟨rfl,rfl⟩
 cases h2:x==15
 rotate_left
 ·go_in;go_wp2;go_ret;exact⟨rfl,rfl⟩
 cases h3:x==16
 rotate_left
 ·go_in;go_wp2;go_ret;exact⟨rfl,rfl⟩
 cases h4:x==17
 rotate_left
 ·go_in;go_wp2;go_ret;exact⟨rfl,rfl⟩
 cases h5:x==19
 rotate_left
 ·go_in;go_wp2;go_ret;exact⟨rfl,rfl⟩
 cases h6:x==20
 rotate_left
 ·go_in;go_wp2;go_ret;exact⟨rfl,rfl⟩
 go_in;go_wp2;go_ret;exact⟨rfl,rfl⟩
def Ky (x:Int):Nat:=if Ah x then 2 else 1
theorem yj {kk:Nat}(hk:kk≤20):Ky (kk:Int)=bp kk:=by
 have:∀k:Fin 21,Ky ((k.val:Nat):Int)=bp k.val:=by decide
 exact this ⟨kk,by omega⟩
theorem cF (x:Int)(w:World):Calls Tryz.prog 97 #[.int .u8 x] w fun e w'=>e=.returned (.int .i64 (Ky x))∧w'=w:=by
 unfold Ky
 cases h:Ah x
 all_goals
  go_in;go_wp2_with(go_at_call 143;refine(Bv _ _).mono ?_;rintro e w' ⟨rfl,rfl⟩)
  go_ret
  exact⟨rfl,rfl⟩
theorem qH {w:World}{base:Nat}{g n cap:Nat}{f:Nat→Int}{N:Nat}(h:w.ownsRow base 3 1 (.slice (some ⟨g,0,none⟩) n cap) N ((List.range N).map fun i=>.int .i64 (f i))){i:Nat}(hi:i<N):
  n=N∧w.cell? ⟨g,i,none⟩=some (.int .i64 (f i)):=by
 rcases h.2 with⟨hv,_⟩|⟨g',cap',cur,hv,_,hh,hle,_,hcs,htake⟩
 ·cases hv
 ·simp only[Value.slice.injEq,Option.some.injEq,Addr.mk.injEq,and_true]at hv
  obtain⟨rfl,rfl,rfl⟩:=hv
  refine⟨rfl,?_⟩
  rw[cell_of_row w g _ _ _ _ hh];have h2:(cur.toList.take (n*1))[i]?=some (Value.int .i64 (f i)):=by
   rw[htake];simp[List.getElem?_range hi]
  rw[List.getElem?_take,if_pos (by omega)]at h2;simpa using h2
theorem vK (w:World)(g cap N:Nat)(f:Nat→Int)(x:Int)(hN:N≤1000)(hc:∀i,i<N→w.cell? ⟨g,i,none⟩=some (.int .i64 (f i))):
  Calls Tryz.prog 96 #[.slice (some ⟨g,0,none⟩) N cap,.int .i64 x] w fun e w'=>e=.returned (.bool ((List.range N).any fun i=>f i==x))∧w'=w:=by
 go_in;go_wp2;go_loop [5] (fun i=>∃k:Nat,k≤N∧i=.int .i64 k∧((List.range k).any fun i=>f i==x)=false) (fun i=>N-(intOf i).toNat)
 case atStart=>exact ⟨0,by omega,rfl,rfl⟩
 case round=>
  obtain⟨k,hk,rfl,hno⟩:=hrel
  by_cases hlt:k<N
  ·have hck:=hc k hlt;have hi1:(k:Int)<(N:Int):=by omega
   cases hf:(f k==x)with
   |false=>
    have HN:Hid (((List.range (k+1)).any fun i=>f i==x)=false):=by
     show((List.range (k+1)).any fun i=>f i==x)=false
     rw[List.range_succ,List.any_append,hno];simp[hf]
    clear hno;go_wp2;go_round
    case rel=>exact ⟨k+1,by omega,by go_num,HN.out⟩
    case measure=>simp [intOf];omega
   |true=>
    have HN:Hid (((List.range N).any fun i=>f i==x)=true):=by
     show((List.range N).any fun i=>f i==x)=true
     rw[List.any_eq_true];exact⟨k,List.mem_range.2 hlt,hf⟩
    clear hno;go_wp2;go_ret
    exact⟨by rw[HN.out];rfl,rfl⟩
  ·have e:k=N:=(by omega);subst e;have HN:=hid hno;clear hno;go_wp2;go_ret
   exact⟨by rw[HN.out];rfl,rfl⟩
def GN (x:Int):Int:=if(x==3||x==4||x==15||x==17||x==18)then 1 else if decide (5≤x)&&decide (x≤13)then 2 else 0
theorem mQ (x:Int)(w:World):Calls Tryz.prog 152 #[.int .u8 x] w fun e w'=>e=.returned (.int .i64 (GN x))∧w'=w:=by
 unfold GN
 cases h0:x==3
 rotate_left
 ·go_in;go_wp2;go_ret;exact⟨rfl,rfl⟩
 cases h1:x==4
 rotate_left
 ·go_in;go_wp2;go_ret;exact⟨rfl,rfl⟩
 cases h2:x==15
 rotate_left
 ·go_in;go_wp2;go_ret;exact⟨rfl,rfl⟩
 cases h3:x==17
 rotate_left
 ·go_in;go_wp2;go_ret;exact⟨rfl,rfl⟩
 cases h4:x==18
 rotate_left
 ·go_in;go_wp2;go_ret;exact⟨rfl,rfl⟩
 by_cases h5:5≤x
 ·have d5:decide (5≤x)=true:=by simpa using h5
  by_cases h13:x≤13
  ·have d13:decide (x≤13)=true:=(by simpa using h13);rw[d5,d13];go_in;go_wp2;go_ret;exact⟨rfl,rfl⟩
  ·have d13:decide (x≤13)=false:=(by simpa using h13);rw[d5,d13];go_in;go_wp2;go_ret;exact⟨rfl,rfl⟩
 ·have d5:decide (5≤x)=false:=by simpa using h5
  rw[d5];go_in;go_wp2;go_ret;exact⟨rfl,rfl⟩
theorem JD {kk:Nat}(hk:kk≤20):GN (kk:Int)=aX (kk*3+1):=by
 have:∀k:Fin 21,GN ((k.val:Nat):Int)=aX (k.val*3+1):=by decide
 exact this ⟨kk,by omega⟩
def Lr (x:Int):Int:=if(x==3||x==5)then 2 else if(x==1||x==2||x==16||(decide (6≤x)&&decide (x≤13)))then 1 else 0
theorem Bw (x:Int)(w:World):Calls Tryz.prog 153 #[.int .u8 x] w fun e w'=>e=.returned (.int .i64 (Lr x))∧w'=w:=by
 unfold Lr
 cases h0:x==3
 rotate_left
 ·go_in;go_wp2;go_ret;exact⟨rfl,rfl⟩
 cases h1:x==5
 rotate_left
 ·go_in;go_wp2;go_ret;exact⟨rfl,rfl⟩
 cases h2:x==1
 rotate_left
 ·go_in;go_wp2;go_ret;exact⟨rfl,rfl⟩
 cases h3:x==2
 rotate_left
 ·go_in;go_wp2;go_ret;exact⟨rfl,rfl⟩
 cases h4:x==16
 rotate_left
 ·go_in;go_wp2;go_ret;exact⟨rfl,rfl⟩
 by_cases h5:6≤x
 ·have d5:decide (6≤x)=true:=by simpa using h5
  by_cases h13:x≤13
  ·have d13:decide (x≤13)=true:=(by simpa using h13);rw[d5,d13];go_in;go_wp2;go_ret;exact⟨rfl,rfl⟩
  ·have d13:decide (x≤13)=false:=(by simpa using h13);rw[d5,d13];go_in;go_wp2;go_ret;exact⟨rfl,rfl⟩
 ·have d5:decide (6≤x)=false:=by simpa using h5
  rw[d5];go_in;go_wp2;go_ret;exact⟨rfl,rfl⟩
theorem JE {kk:Nat}(hk:kk≤20):Lr (kk:Int)=aX (kk*3+2):=by
 have:∀k:Fin 21,Lr ((k.val:Nat):Int)=aX (k.val*3+2):=by decide
 exact this ⟨kk,by omega⟩
theorem yl (x:Int)(h0:0≤x)(w:World):Calls Tryz.prog 110 #[.int .i64 x] w fun e w'=>e=.returned (.int .u8 (dU x))∧w'=w:=by
 unfold dU
 by_cases h1:128≤x
 ·rw[if_pos h1];
  have g3:¬x<3:=by omega
  have f3:decide (x<3)=false:=by simp;omega
  have g8:¬x<8:=by omega
  have f8:decide (x<8)=false:=by simp;omega
  have g16:¬x<16:=by omega
  have f16:decide (x<16)=false:=by simp;omega
  have g32:¬x<32:=by omega
  have f32:decide (x<32)=false:=by simp;omega
  have g128:¬x<128:=by omega
  have f128:decide (x<128)=false:=by simp;omega
  have e3:(x==3)=false:=by simp;omega
  go_enter Tryz.func110,Tryz.ntmps110;go_wp2;go_ret;exact⟨rfl,rfl⟩
 rw[if_neg h1]
 by_cases h2:32≤x
 ·rw[if_pos h2];
  have g3:¬x<3:=by omega
  have f3:decide (x<3)=false:=by simp;omega
  have g8:¬x<8:=by omega
  have f8:decide (x<8)=false:=by simp;omega
  have g16:¬x<16:=by omega
  have f16:decide (x<16)=false:=by simp;omega
  have g32:¬x<32:=by omega
  have f32:decide (x<32)=false:=by simp;omega
  have g128:x<128:=by omega
  have f128:decide (x<128)=true:=by simp;omega
  have e3:(x==3)=false:=by simp;omega
  go_enter Tryz.func110,Tryz.ntmps110;go_wp2;go_ret;exact⟨rfl,rfl⟩
 rw[if_neg h2]
 by_cases h3:16≤x
 ·rw[if_pos h3];
  have g3:¬x<3:=by omega
  have f3:decide (x<3)=false:=by simp;omega
  have g8:¬x<8:=by omega
  have f8:decide (x<8)=false:=by simp;omega
  have g16:¬x<16:=by omega
  have f16:decide (x<16)=false:=by simp;omega
  have g32:x<32:=by omega
  have f32:decide (x<32)=true:=by simp;omega
  have g128:x<128:=by omega
  have f128:decide (x<128)=true:=by simp;omega
  have e3:(x==3)=false:=by simp;omega
  go_enter Tryz.func110,Tryz.ntmps110;go_wp2;go_ret;exact⟨rfl,rfl⟩
 rw[if_neg h3]
 by_cases h4:8≤x
 ·rw[if_pos h4];
  have g3:¬x<3:=by omega
  have f3:decide (x<3)=false:=by simp;omega
  have g8:¬x<8:=by omega
  have f8:decide (x<8)=false:=by simp;omega
  have g16:x<16:=by omega
  have f16:decide (x<16)=true:=by simp;omega
  have g32:x<32:=by omega
  have f32:decide (x<32)=true:=by simp;omega
  have g128:x<128:=by omega
  have f128:decide (x<128)=true:=by simp;omega
  have e3:(x==3)=false:=by simp;omega
  go_enter Tryz.func110,Tryz.ntmps110;go_wp2;go_ret;exact⟨rfl,rfl⟩
 rw[if_neg h4]
 by_cases h5:4≤x
 ·rw[if_pos h5];
  have g3:¬x<3:=by omega
  have f3:decide (x<3)=false:=by simp;omega
  have g8:x<8:=by omega
  have f8:decide (x<8)=true:=by simp;omega
  have g16:x<16:=by omega
  have f16:decide (x<16)=true:=by simp;omega
  have g32:x<32:=by omega
  have f32:decide (x<32)=true:=by simp;omega
  have g128:x<128:=by omega
  have f128:decide (x<128)=true:=by simp;omega
  have e3:(x==3)=false:=by simp;omega
  go_enter Tryz.func110,Tryz.ntmps110;go_wp2;go_ret;exact⟨rfl,rfl⟩
 rw[if_neg h5]
 by_cases h6:x=3
 ·rw[if_pos h6];
  have g3:¬x<3:=by omega
  have f3:decide (x<3)=false:=by simp;omega
  have g8:x<8:=by omega
  have f8:decide (x<8)=true:=by simp;omega
  have g16:x<16:=by omega
  have f16:decide (x<16)=true:=by simp;omega
  have g32:x<32:=by omega
  have f32:decide (x<32)=true:=by simp;omega
  have g128:x<128:=by omega
  have f128:decide (x<128)=true:=by simp;omega
  have e3:(x==3)=true:=by simp;omega
  go_enter Tryz.func110,Tryz.ntmps110;go_wp2;go_ret;exact⟨rfl,rfl⟩
 rw[if_neg h6]
 have g3:x<3:=by omega
 have f3:decide (x<3)=true:=by simp;omega
 have g8:x<8:=by omega
 have f8:decide (x<8)=true:=by simp;omega
 have g16:x<16:=by omega
 have f16:decide (x<16)=true:=by simp;omega
 have g32:x<32:=by omega
 have f32:decide (x<32)=true:=by simp;omega
 have g128:x<128:=by omega
 have f128:decide (x<128)=true:=by simp;omega
 have e3:(x==3)=false:=by simp;omega
 go_enter Tryz.func110,Tryz.ntmps110;go_wp2;go_ret;exact⟨rfl,rfl⟩
def mR (c:Nat→Int)(N:Nat):List Value:=(List.range N).map fun i=>.int .i64 (pos c i)
theorem lR (c:Nat→Int)(N:Nat):mR c (N+1)=mR c N++[.int .i64 (pos c N)]:=by
 unfold mR;rw[List.range_succ,List.map_append];rfl
def ym (probes:Bool):Nat:=if probes then 20 else 19
theorem SP.many {c:Nat→Int}{L N z:Nat}(S:SP c L N z):∀m,m≤N→m≤pos c m:=by
 intro m;induction m with
 |zero=>intro _;omega
 |succ m ih=>
  intro h;have h1:=ih (by omega);have h2:=S.op m (by omega);have h3:=S.z20
  have:=(bS (c (pos c m)).toNat (by omega)).1
  show m+1≤pos c m+bp _;omega
theorem SP.count {c:Nat→Int}{L N z:Nat}(S:SP c L N z):N≤240:=by
 have:=S.many N (Nat.le_refl _)
 have:=S.le (m:=N) (Nat.le_refl _)
 have:=S.most
 omega
theorem js (w:World)(cb co L cap:Nat)(c:Nat→Int)(probes:Bool)(hL:L≤240)(hby:∀i,i<L→0≤c i∧c i≤255)(C:Laid w cb co L cap c):
  Calls Tryz.prog 61 #[.slice (some ⟨cb,co,none⟩) L cap,.bool probes] w fun e w'=>∃N,SP c L N (ym probes)∧Below w.heap.size w w'∧
   ((pos c N<L∧cB c L (ym probes) (pos c N)=false∧e=.returned (.tuple #[.slice none 0 0,.int .i64 (pos c N)]))∨(pos c N=L∧∃v,w'.ownsRow w.heap.size 3 1 v N (mR c N)∧e=.returned (.tuple #[v,.int .i64 (-1)]))):=by
 obtain⟨i,hi,hz0,hz1,hz2⟩:=info_parts Tryz.gw
 have hzz:ym probes≤20:=by unfold ym;split<;>omega
 go_in;go_wp2;go_loopw [6,7] (fun o at' wr=>∃m:Nat,SP c L m (ym probes)∧at'=.int .i64 (pos c m)∧wr.ownsRow w.heap.size 3 1 o m (mR c m)∧Below w.heap.size w wr) (fun _ at' _=>L-(intOf at').toNat)
 case atStart=>exact ⟨0,⟨hL,hzz,hby,fun _ h=>by omega,fun _ h=>by omega,fun _ h=>by omega⟩,rfl,World.ownsRow_nil _ _ _ _,Below.refl _ _⟩
 case round=>
  obtain⟨m,S,rfl,hown,hB⟩:=hrel
  have hle:=S.le (m:=m) (Nat.le_refl _);have hm240:=S.count;by_cases hlt:pos c m<L
  ·have hck:=C.at hB hlt;have hi1:(pos c m:Int)<(L:Int):=(by omega);have hb0:=(hby _ hlt).1;have hb1:=(hby _ hlt).2
   cases hs:cB c L (ym probes) (pos c m)with
   |true=>
    have S2:=S.succ hs
    obtain⟨kk,A,hsucc⟩:=S2.at (m:=m) (by omega)
    rw[A.op]at hck;have hszr:=yj A.k;have h1:=A.lt;have h2:=A.fits;have h3:=A.sz;have h4:=A.s1;have h5:=A.s2;have h6:=A.pos;have hk:=A.k;have hkz:=A.kz;have HS:=hid hsucc;have hg1:¬(20:Int)<(kk:Int):=(by omega);have hg1':decide ((20:Int)<(kk:Int))=false:=by simp;omega
    have hg2:¬(L:Int)<(pos c m:Int)+(bp kk:Int):=(by omega);have hg2':decide ((L:Int)<(pos c m:Int)+(bp kk:Int))=false:=by simp;omega
    have hsz2:bp kk≤2:=(bS kk hk).2.1;have hp20:((kk:Int)==20)=true→probes=true:=fun h=>by
     have:kk=20:=by simp at h;omega
     cases probes with
     |true=>rfl
     |false=>unfold ym at hkz;simp at hkz;omega
    have hhold:dB (kk:Int)=true→(pos c m:Int)+1<(L:Int)∧wr.cell? ⟨cb,co+(pos c m+1),none⟩=some (.int .u8 (c (pos c m+1)))∧¬(15:Int)<c (pos c m+1)∧decide ((15:Int)<c (pos c m+1))=false:=fun h=>by
     have t:=(ov h).1;have q:=S2.cell m (by omega);rw[A.op]at q;have q:=q h
     exact⟨by omega,C.at hB (by omega),by omega,by simp;omega⟩
    have HO:=hid hown;have hsz:=hB.size;clear hsucc h3 A S hs h4 h5 hkz hown
    obtain⟨n,hn⟩:∃n:Nat,bp kk=n:=⟨_,rfl⟩
    rw[hn]at hszr HS h2 h6 hg2 hg2' hsz2;clear hn;have hcase:(((kk:Int)==20)=true∧((kk:Int)==16)=false∧((kk:Int)==17)=false)∨(((kk:Int)==20)=false∧((kk:Int)==16)=false∧((kk:Int)==17)=false)∨(((kk:Int)==20)=false∧((kk:Int)==16)=true)∨(((kk:Int)==20)=false∧((kk:Int)==16)=false∧((kk:Int)==17)=true):=by
     simp only[beq_iff_eq,beq_eq_false_iff_ne,ne_eq];omega
    rcases hcase with⟨h20,h16,h17⟩|⟨h20,h16,h17⟩|⟨h20,h16⟩|⟨h20,h16,h17⟩
    ·have hpr:=hp20 h20;subst hpr;clear hp20 hhold;go_wp2_with(first|(go_at_call 97;refine(cF _ _).mono ?_;rintro e w' ⟨rfl,rfl⟩;rw[hszr])|(at_builtin;refine wpList_append_own_at _ rfl (.tmp 55) (.tmp 57) 32 rfl w.heap.size 3 i (.int .i64 0) 1 8 Tryz.underlying32 hi hz0 hz1 hz2 rfl (by decide) _ m _ rfl (HO.out.alloc _) ⟨_,0,none⟩ 1 1 [.int .i64 (pos c m)] rfl rfl (cell_one_new _ _ _) ?c2 (by unfold maxLen;omega) (by omega) (by simp;omega) ?_))
     case c2=>intro u hu;simp at hu;subst hu;rfl
     intro v' w1 hown' hgrow _ hat;have hB1:=(hB.alloc hsz (.cells #[.int .i64 (pos c m)] 3)).grown hgrow (by simp;omega) (fun k hk=>(HO.out.lt k hk).1);have HO1:Hid (w1.ownsRow w.heap.size 3 1 v' (m+1) (mR c (m+1))):=by
      show w1.ownsRow w.heap.size 3 1 v' (m+1) (mR c (m+1));rw[lR];exact hown'
     clear hown' hgrow hat;go_wp2;go_roundw
     case rel=>exact ⟨m+1,S2,by rw[HS.out];simp,HO1.out,hB1⟩
     case measure=>simp [intOf];omega
    ·clear hp20 hhold;go_wp2_with(first|(go_at_call 97;refine(cF _ _).mono ?_;rintro e w' ⟨rfl,rfl⟩;rw[hszr])|(at_builtin;refine wpList_append_own_at _ rfl (.tmp 55) (.tmp 57) 32 rfl w.heap.size 3 i (.int .i64 0) 1 8 Tryz.underlying32 hi hz0 hz1 hz2 rfl (by decide) _ m _ rfl (HO.out.alloc _) ⟨_,0,none⟩ 1 1 [.int .i64 (pos c m)] rfl rfl (cell_one_new _ _ _) ?c2 (by unfold maxLen;omega) (by omega) (by simp;omega) ?_))
     case c2=>intro u hu;simp at hu;subst hu;rfl
     intro v' w1 hown' hgrow _ hat;have hB1:=(hB.alloc hsz (.cells #[.int .i64 (pos c m)] 3)).grown hgrow (by simp;omega) (fun k hk=>(HO.out.lt k hk).1);have HO1:Hid (w1.ownsRow w.heap.size 3 1 v' (m+1) (mR c (m+1))):=by
      show w1.ownsRow w.heap.size 3 1 v' (m+1) (mR c (m+1));rw[lR];exact hown'
     clear hown' hgrow hat;go_wp2;go_roundw
     case rel=>exact ⟨m+1,S2,by rw[HS.out];simp,HO1.out,hB1⟩
     case measure=>simp [intOf];omega
    ·obtain⟨q1,q2,q3,q4⟩:=hhold (by unfold dB;rw[h16];rfl)
     clear hp20 hhold;go_wp2_with(first|(go_at_call 97;refine(cF _ _).mono ?_;rintro e w' ⟨rfl,rfl⟩;rw[hszr])|(at_builtin;refine wpList_append_own_at _ rfl (.tmp 55) (.tmp 57) 32 rfl w.heap.size 3 i (.int .i64 0) 1 8 Tryz.underlying32 hi hz0 hz1 hz2 rfl (by decide) _ m _ rfl (HO.out.alloc _) ⟨_,0,none⟩ 1 1 [.int .i64 (pos c m)] rfl rfl (cell_one_new _ _ _) ?c2 (by unfold maxLen;omega) (by omega) (by simp;omega) ?_))
     case c2=>intro u hu;simp at hu;subst hu;rfl
     intro v' w1 hown' hgrow _ hat;have hB1:=(hB.alloc hsz (.cells #[.int .i64 (pos c m)] 3)).grown hgrow (by simp;omega) (fun k hk=>(HO.out.lt k hk).1);have HO1:Hid (w1.ownsRow w.heap.size 3 1 v' (m+1) (mR c (m+1))):=by
      show w1.ownsRow w.heap.size 3 1 v' (m+1) (mR c (m+1));rw[lR];exact hown'
     clear hown' hgrow hat;go_wp2;go_roundw
     case rel=>exact ⟨m+1,S2,by rw[HS.out];simp,HO1.out,hB1⟩
     case measure=>simp [intOf];omega
    ·obtain⟨q1,q2,q3,q4⟩:=hhold (by unfold dB;rw[h16,h17];rfl)
     clear hp20 hhold;go_wp2_with(first|(go_at_call 97;refine(cF _ _).mono ?_;rintro e w' ⟨rfl,rfl⟩;rw[hszr])|(at_builtin;refine wpList_append_own_at _ rfl (.tmp 55) (.tmp 57) 32 rfl w.heap.size 3 i (.int .i64 0) 1 8 Tryz.underlying32 hi hz0 hz1 hz2 rfl (by decide) _ m _ rfl (HO.out.alloc _) ⟨_,0,none⟩ 1 1 [.int .i64 (pos c m)] rfl rfl (cell_one_new _ _ _) ?c2 (by unfold maxLen;omega) (by omega) (by simp;omega) ?_))
     case c2=>intro u hu;simp at hu;subst hu;rfl
     intro v' w1 hown' hgrow _ hat;have hB1:=(hB.alloc hsz (.cells #[.int .i64 (pos c m)] 3)).grown hgrow (by simp;omega) (fun k hk=>(HO.out.lt k hk).1);have HO1:Hid (w1.ownsRow w.heap.size 3 1 v' (m+1) (mR c (m+1))):=by
      show w1.ownsRow w.heap.size 3 1 v' (m+1) (mR c (m+1));rw[lR];exact hown'
     clear hown' hgrow hat;go_wp2;go_roundw
     case rel=>exact ⟨m+1,S2,by rw[HS.out];simp,HO1.out,hB1⟩
     case measure=>simp [intOf];omega
   |false=>
    by_cases hA:(20:Int)<c (pos c m)
    ·have hA':decide ((20:Int)<c (pos c m))=true:=by simp;omega
     go_wp2_with(first|(go_at_call 97;refine(cF _ _).mono ?_;rintro e w' ⟨rfl,rfl⟩))
     go_ret2
     exact⟨m,S,hB,Or.inl ⟨hlt,hs,rfl⟩⟩
    ·obtain⟨kk,hkk⟩:∃kk:Nat,c (pos c m)=(kk:Int):=⟨(c (pos c m)).toNat,by omega⟩
     have hk:kk≤20:=(by omega);have hto:(c (pos c m)).toNat=kk:=(by omega);have hszr:=yj hk
     obtain⟨hs1,hs2,_⟩:=bS kk hk
     rw[hkk]at hck;have hg1:¬(20:Int)<(kk:Int):=(by omega);have hg1':decide ((20:Int)<(kk:Int))=false:=by simp;omega
     have hs':=hs;unfold cB at hs';rw[hto,hkk]at hs';clear hA hb0 hb1;have ht2:dB (kk:Int)=true→bp kk=2:=fun h=>(ov h).1
     obtain⟨n,hn⟩:∃n:Nat,bp kk=n:=⟨_,rfl⟩
     rw[hn]at hszr hs1 hs2 hs' ht2;clear hn;by_cases hB20:kk=20∧probes=false
     ·obtain⟨e20,rfl⟩:=hB20
      have h20:((kk:Int)==20)=true:=by rw[e20];rfl
      clear hs' hs2 e20 hkk hto ht2;go_wp2_with(first|(go_at_call 97;refine(cF _ _).mono ?_;rintro e w' ⟨rfl,rfl⟩;rw[hszr]))
      go_ret2
      exact⟨m,S,hB,Or.inl ⟨hlt,hs,rfl⟩⟩
     ·have hkz:kk≤ym probes:=by
       unfold ym
       cases probes with
       |true=>simpa using hk
       |false=>have:kk≠20:=fun h=>hB20 ⟨h,rfl⟩
               simp;omega
      by_cases hC:L<pos c m+n
      ·have hg2:(L:Int)<(pos c m:Int)+(n:Int):=(by omega);have hg2':decide ((L:Int)<(pos c m:Int)+(n:Int))=true:=by simp;omega
       clear ht2 hs' hkk hto
       cases h20:((kk:Int)==20)with
       |true=>
        have hpr:probes=true:=by
         cases probes with
         |true=>rfl
         |false=>exact absurd ⟨by simp at h20;omega,rfl⟩ hB20
        subst hpr;clear hB20 hkz;go_wp2_with(first|(go_at_call 97;refine(cF _ _).mono ?_;rintro e w' ⟨rfl,rfl⟩;rw[hszr]))
        go_ret2
        exact⟨m,S,hB,Or.inl ⟨hlt,hs,rfl⟩⟩
       |false=>
        clear hB20 hkz;go_wp2_with(first|(go_at_call 97;refine(cF _ _).mono ?_;rintro e w' ⟨rfl,rfl⟩;rw[hszr]))
        go_ret2
        exact⟨m,S,hB,Or.inl ⟨hlt,hs,rfl⟩⟩
      ·have hg2:¬(L:Int)<(pos c m:Int)+(n:Int):=(by omega);have hg2':decide ((L:Int)<(pos c m:Int)+(n:Int))=false:=by simp;omega
       have hhb:dB (kk:Int)=true∧¬c (pos c m+1)<16:=by
        have e1:decide ((kk:Int)≤(ym probes:Int))=true:=by simp;omega
        have e2:decide (pos c m+n≤L)=true:=by simp;omega
        rw[e1,e2]at hs'
        cases hb:dB (kk:Int)with
        |false=>rw [hb]at hs';cases hs'
        |true=>rw [hb]at hs';simp at hs';exact⟨rfl,by omega⟩
       obtain⟨hb,hn⟩:=hhb
       have t:=ht2 hb;have q1:(pos c m:Int)+1<(L:Int):=(by omega);have q2:=C.at hB (p:=pos c m+1) (by omega);have q3:(15:Int)<c (pos c m+1):=(by omega);have q4:decide ((15:Int)<c (pos c m+1))=true:=by simp;omega
       have h20:((kk:Int)==20)=false:=by
        unfold dB at hb;rw[beq_eq_false_iff_ne];intro h;rw[h]at hb;cases hb
       unfold dB at hb;clear ht2 hs' hkk hto hB20 hkz hn
       cases h16:((kk:Int)==16)with
       |true=>
        clear hb;go_wp2_with(first|(go_at_call 97;refine(cF _ _).mono ?_;rintro e w' ⟨rfl,rfl⟩;rw[hszr]))
        go_ret2
        exact⟨m,S,hB,Or.inl ⟨hlt,hs,rfl⟩⟩
       |false=>
        have h17:((kk:Int)==17)=true:=by rw[h16]at hb;exact hb
        clear hb;go_wp2_with(first|(go_at_call 97;refine(cF _ _).mono ?_;rintro e w' ⟨rfl,rfl⟩;rw[hszr]))
        go_ret2
        exact⟨m,S,hB,Or.inl ⟨hlt,hs,rfl⟩⟩
  ·have e:pos c m=L:=(by omega);rw[e];go_wp2;go_ret2
   exact⟨m,S,hB,Or.inr ⟨e,_,hown,rfl⟩⟩
end Go.Proofs.YtmpgjkhchfcjlaaGreatDoor
