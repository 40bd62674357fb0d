import Derived.Test.YtmpgjkhchfcjlaaGreatDoorM13
import Derived.Test.YtmpgjkhchfcjlaaGreatDoorM17
namespace Go.Proofs.YtmpgjkhchfcjlaaGreatDoor
open Go.RowKit
set_option maxRecDepth 100000
set_option maxHeartbeats 4000000
theorem BF (M:Nat)(w:World)(vs:Value)(inp:ByteArray)(ρ:RR)(cb co L cap p kk:Nat)(k:Int)(A:Kq M w vs inp ρ cb co L cap p kk k)(hcl:kk=16∨kk=17→k<16)
  (hnum:∀x∈ρ.stack,0≤x∧x≤65535)(hr0:0≤ρ.read)(hr1:ρ.read≤1000)(hout:ρ.out.size≤100):
  Calls Tryz.prog 109 #[.pointer (some ⟨M,0,none⟩)] w (fI M w (.slice (some ⟨cb,co,none⟩) L cap) inp (p8 inp ρ kk k)):=by
 have hkk:=A.KA;have hlen:=A.len
 obtain⟨_,⟨t1,t2⟩,⟨l1,l2⟩⟩:=eP kk (by omega)
 have ht:aX (kk*3+1)=(aI kk:Nat):=by unfold aI;omega
 have hl:aX (kk*3+2)=(eO kk:Nat):=by unfold eO;omega
 unfold p8;by_cases hm:bT ρ.stack.length (aX (kk*3+1)) (aX (kk*3+2))≠0
 ·rw[if_pos hm];refine DZ M w vs inp ρ cb co L cap p kk k A _ ?_;rw[ht,hl]at hm⊢;unfold bT at hm⊢;by_cases hu:(ρ.stack.length:Int)-(aI kk:Nat)<0
  ·rw[if_pos hu];omega
  ·rw[if_neg hu]at hm⊢;by_cases ho:(32:Int)<(ρ.stack.length:Int)-(aI kk:Nat)+(eO kk:Nat)
   ·rw[if_pos ho];omega
   ·rw[if_neg ho]at hm;exact absurd rfl hm
 ·rw[if_neg hm];have hmz:=kY (Classical.byContradiction hm);have HU:aI kk≤ρ.stack.length∧ρ.stack.length-aI kk+eO kk≤32:=by omega
  have bd:=fun i=>Ak hnum i
  have E:=fun kd ft=>Hh M w vs inp ρ cb co L cap p kk k A kd ft HU
  unfold kQ;dsimp only;by_cases h0:kk=0
  ·rw[if_pos h0];exact E _ _ (Or.inl ⟨h0,rfl,rfl⟩)
  rw[if_neg h0];by_cases h11:kk=11∧(if aI kk=2 then ρ.stack.getD (ρ.stack.length-aI kk+1) 0 else 0)=0
  ·rw[if_pos h11]
   obtain⟨rfl,hb⟩:=h11
   exact E _ _ (Or.inr (Or.inl ⟨rfl,hb,rfl,rfl⟩))
  rw[if_neg h11];by_cases h18:kk=18∧16≤ρ.out.size
  ·rw[if_pos h18];exact E _ _ (Or.inr (Or.inr (Or.inl ⟨h18.1,h18.2,rfl,rfl⟩)))
  rw[if_neg h18];by_cases h19:kk=19
  ·rw[if_pos h19];exact E _ _ (Or.inr (Or.inr (Or.inr ⟨h19,rfl,rfl⟩)))
  rw[if_neg h19];have ha:∀x:Int,(if aI kk=0 then 0 else ρ.stack.getD (ρ.stack.length-aI kk) 0)=x→0≤x∧x≤65535:=fun x e=>by
   rw[←e];split
   ·omega
   ·exact bd _
  have hb:∀x:Int,(if aI kk=2 then ρ.stack.getD (ρ.stack.length-aI kk+1) 0 else 0)=x→0≤x∧x≤65535:=fun x e=>by
   rw[←e];split
   ·exact bd _
   ·omega
  generalize ea:(if aI kk=0 then 0 else ρ.stack.getD (ρ.stack.length-aI kk) 0)=a;generalize eb:(if aI kk=2 then ρ.stack.getD (ρ.stack.length-aI kk+1) 0 else 0)=b at h11⊢
  have:=ha a ea
  have:=hb b eb
  have hk0:=A.k0;refine Hi M w vs inp ρ cb co L cap p kk k A HU h0 h19 a b ea.symm eb.symm (fun e=> ?_) (fun e=> ?_) _ (fun w1 vs1 h1=>BC M w1 _ vs1 inp _ kk a b k h1 h0 (by omega) (by show(ρ.stack.take _).length≤32;rw[List.length_take];omega) (by omega) (by omega) (by omega) (by omega) (fun e=>by omega) (fun h=>⟨hk0,hcl h⟩) hr0 hr1 hout) _ (by rw[A.here])
  ·simp at e⊢;omega
  ·simp at e⊢;omega
def fJ (v:Value)(s:ByteArray):Array Value:=#[v,.string s,.int .i64 0,.slice none 0 0]++(Array.replicate 85 (.int .i64 0)++#[.string ByteArray.empty,.int .i64 0,.bool false])
theorem JJ (a:Option Addr)(n c:Nat)(s:ByteArray)(w:World):(Instr.build 169 #[(0,.slice a n c),(1,.string s)]).run Tryz.prog w=.ok (.agg (fJ (.slice a n c) s)) w:=by kernel_rfl
theorem LM (a:Option Addr)(n c:Nat)(s:ByteArray)(w:World):(Instr.box 169 (.agg (fJ (.slice a n c) s))).run Tryz.prog w=.ok (.pointer (some ⟨w.heap.size,0,none⟩)) (w.alloc (.cells (fJ (.slice a n c) s) 169)):=by kernel_rfl
theorem E4 (w:World):(Instr.alloc 74 true (.tuple #[])).run Tryz.prog w=.ok (.pointer (some ⟨w.heap.size,0,none⟩)) (w.alloc (.cells sG 74)):=by kernel_rfl
section
variable {P:Program} {w:World} {ops:Array Oper} {rest:List Oper} {o:Oper} {a:Act} {Q:Exit→Act→World→Prop}
theorem kR (hgd:o.guard=none)(t:TypeId)(i j:Nat)(x y:Operand)(ho:o.op=.build t #[(i,x),(j,y)])(v u:Value)(hx:a.eval x=v)(hy:a.eval y=u)(cs:Array Value)(hrun:∀w,(Instr.build t #[(i,v),(j,u)]).run P w=.ok (.agg cs) w)
  (h:wpList P ops Q rest (a.put o.dst (.agg cs)) w):wpList P ops Q (o::rest) a w:=by
 refine wpList_plain hgd fun K hK=> ?_
 unfold Oper.wp execOp;simp only[ho,List.map_toArray,List.map_cons,List.map_nil,hx,hy,hrun,Sem.run_bind,Sem.run_pure,Result.andThen_ok];exact hK _ _ h
theorem aF (hgd:o.guard=none)(t:TypeId)(x:Operand)(ho:o.op=.box t x)(v:Value)(hx:a.eval x=v)(cs:Array Value)(hrun:∀w,(Instr.box t v).run P w=.ok (.pointer (some ⟨w.heap.size,0,none⟩)) (w.alloc (.cells cs t)))
  (h:wpList P ops Q rest (a.put o.dst (.pointer (some ⟨w.heap.size,0,none⟩))) (w.alloc (.cells cs t))):wpList P ops Q (o::rest) a w:=by
 refine wpList_plain hgd fun K hK=> ?_
 unfold Oper.wp execOp;simp only[ho,hx,hrun,Sem.run_bind,Sem.run_pure,Result.andThen_ok];exact hK _ _ h
end
theorem yC (v:Value)(s:ByteArray){j:Nat}(h4:4≤j)(h89:j<89):cQ v (.slice none 0 0) s r0 j=.int .i64 0:=by
 unfold cQ;rw[if_neg (by omega),if_neg (by omega),if_neg (by omega),if_neg (by omega)];by_cases a:j<20
 ·rw[if_pos a];rfl
 ·rw[if_neg a];by_cases b:j=20
  ·rw[if_pos b];rfl
  ·rw[if_neg b];by_cases d:j<85
   ·rw[if_pos d];rfl
   ·rw[if_neg d]
    have:j=85∨j=86∨j=87∨j=88:=by omega
    rcases this with rfl|rfl|rfl|rfl<;>rfl
theorem yD (v:Value)(s:ByteArray)(j:Nat)(hj:j<92):(fJ v s)[j]?=some (cQ v (.slice none 0 0) s r0 j):=by
 unfold fJ;by_cases h4:j<4
 ·rw[Array.getElem?_append_left (by simp;omega)]
  have:j=0∨j=1∨j=2∨j=3:=by omega
  rcases this with rfl|rfl|rfl|rfl<;>rfl
 ·rw[Array.getElem?_append_right (by simp;omega)];have e4:(#[v,Value.string s,.int .i64 0,.slice none 0 0]:Array Value).size=4:=rfl;rw[e4];by_cases h89:j<89
  ·rw[Array.getElem?_append_left (by rw[Array.size_replicate];omega),Array.getElem?_replicate,if_pos (by omega),yC v s (by omega) h89]
  ·rw[Array.getElem?_append_right (by rw[Array.size_replicate];omega),Array.size_replicate]
   have:j=89∨j=90∨j=91:=by omega
   rcases this with rfl|rfl|rfl<;>rfl
theorem BI {w:World}{M:Nat}{v:Value}{s:ByteArray}(h:w.heap[M]?=some (.cells (fJ v s) 169 (0,0))):cz M w v (.slice none 0 0) s r0 where
 cell:=fun j hj=>by rw[cell_of_row w M _ _ _ _ h];exact yD v s j hj
 thaw:=fun j=>frozen_of_row w M j _ _ h
 row:=⟨none,0,rfl,⟨Nat.le_refl _,by omega,Or.inl ⟨rfl,rfl⟩⟩,fun i x hx=>by cases hx⟩
theorem yE {c:Nat→Int}{N:Nat}:∀M k,k<bq c N M→∃t,t<M∧(kV c N M)[k]?=some (.int .i64 (pos c t))∧aM c t N=true∧bq c N t=k:=by
 intro M;induction M with
 |zero=>intro k hk;have:bq c N 0=0:=rfl
        omega
 |succ M ih=>
  intro k hk;have hl:(kV c N M).length=bq c N M:=by unfold kV bq;rw[List.length_map]
  cases hb:aM c M N with
  |false=>
   obtain⟨e1,e2⟩:=l7 hb
   rw[e2]at hk
   obtain⟨t,h1,h2,h3,h4⟩:=ih k hk
   exact⟨t,by omega,by rw[e1];exact h2,h3,h4⟩
  |true=>
   obtain⟨e1,e2⟩:=jS hb
   rw[e2]at hk;by_cases hlt:k<bq c N M
   ·obtain⟨t,h1,h2,h3,h4⟩:=ih k hlt
    exact⟨t,by omega,by rw[e1,List.getElem?_append_left (by rw[hl];exact hlt)];exact h2,h3,h4⟩
   ·have hk2:k=bq c N M:=(by omega);subst hk2
    refine⟨M,by omega,?_,hb,rfl⟩
    rw[e1,List.getElem?_append_right (by rw[hl];exact Nat.le_refl _),hl,Nat.sub_self];rfl
theorem sL (c:Nat→Int)(N m:Nat):∀d,bq c N m≤bq c N (m+d)
 |0=>Nat.le_refl _
 |d+1=>by
  have:=sL c N m d
  cases hb:aM c (m+d) N with
  |false=>rw [←Nat.add_assoc,(l7 hb).2];exact this
  |true=>rw [←Nat.add_assoc,(jS hb).2];omega
theorem ko {c:Nat→Int}{N m k:Nat}(hb:aM c m N=true)(h:m<k):bq c N m<bq c N k:=by
 have h1:=(jS hb).2;have h2:=sL c N (m+1) (k-(m+1));rw[show m+1+(k-(m+1))=k by omega]at h2;omega
theorem E5 {c:Nat→Int}{N m k:Nat}(hm:aM c m N=true)(hk:aM c k N=true)(h:bq c N m=bq c N k):m=k:=by
 rcases Nat.lt_trichotomy m k with q|q|q
 ·have:=ko hm q;omega
 ·exact q
 ·have:=ko hk q;omega
def KB (c aY:Nat→Int)(input:ByteArray)(fuel:Int)(w:World)(e:Ending)(w':World):Prop:=
 ∃(n:Nat) (τ:RS),τ=after c aY fuel (jm input) n∧τ.σ.ended=true∧(∀m,m<n→(after c aY fuel (jm input) m).σ.ended=false)∧Below w.heap.size w w'∧
  ∃g,w.heap.size≤g∧w'.heap[g]?=some (.cells (fU τ.cnt 64).toArray 5 (0,0))∧e=.returned (.tuple #[.agg #[.int .i64 τ.σ.kind,.int .i64 τ.σ.fault,.int .i64 τ.σ.place,.string (strOfNums τ.σ.out),.int .i64 τ.σ.steps],.slice (some ⟨g,0,none⟩) 64 64])
theorem cz.mU {M:Nat}{w w':World}{vc vs:Value}{inp:ByteArray}{ρ:RR}(h:cz M w vc vs inp ρ)(hh:w'.heap=w.heap):cz M w' vc vs inp ρ:=h.same hh
theorem iG {w:World}{base:Nat}{e:TypeId}{v:Value}{N:Nat}{xs:List Value}(h:w.ownsRow base e 1 v N xs)(hN:0<N):
  ∃g cap,v=.slice (some ⟨g,0,none⟩) N cap∧base≤g∧N≤cap∧cap≤maxLen∧∀(i:Nat) (u:Value),xs[i]?=some u→w.cell? ⟨g,i,none⟩=some u:=by
 rcases h.2 with⟨_,h0⟩|⟨g,cap,cur,hv,hb,hh,hle,hcap,hcs,htake⟩
 ·omega
 ·refine⟨g,cap,hv,hb,hle,hcap,fun i u hx=> ?_⟩
  rw[cell_of_row w g _ _ _ _ hh];have hi:i<N:=by
   have h1:=(List.getElem?_eq_some_iff.1 hx).1;have h2:=h.1;omega
  have h2:(cur.toList.take (N*1))[i]?=some u:=by rw[htake];exact hx
  rw[List.getElem?_take,if_pos (by omega)]at h2;simpa using h2
theorem Kept.then' {B M:Nat}{a b d:World}(h:Kept B M a b)(k:Kept b.heap.size M b d)(hB:B≤b.heap.size:=by omega):Kept B M a d:=
 ⟨k.os.trans h.os,k.tape.trans h.tape,k.output.trans h.output,Nat.le_trans h.size k.size,fun i hi hm=>(k.block i (by omega) hm).trans (h.block i hi hm)⟩
theorem BJ {c:Nat→Int}{N:Nat}:aM c 0 N=true:=by unfold aM dI;simp
theorem vY (w:World)(cb co L cap N:Nat)(c aY:Nat→Int)(withp:Bool)(input:ByteArray)(fuel:Int)(S:SP c L N 20)(hN:pos c N=L)(hN0:0<N)(hG:Good c L (fun p=>∃m,m<N∧pos c m=p))(hE:∀p,p<L→-1≤aY p∧aY p≤255)
  (hpr:bJ c N=withp)(hent:∀m,m<N→aY (pos c m)=if withp then(if c (pos c m)=20 then c (pos c m+1)else -1)else(if aM c m N then(bq c N m:Int)else -1))(h20:withp=false→∀m,m<N→c (pos c m)≤19)
  (hin:input.size≤24)(hf0:0≤fuel)(hf1:fuel≤500)(C:Laid w cb co L cap c):
  Calls Tryz.prog 67 #[.slice (some ⟨cb,co,none⟩) L cap,.string input,.int .i64 fuel] w (KB c aY input fuel w):=by
 have hroom:=C.room;have hroom':=C.room';have hcbw:=C.blk;have hnB0:0<bq c N N:=by
  have h:=ko (c:=c) (N:=N) BJ hN0
  have:bq c N 0=0:=rfl
  omega
 have hnB:=qf c N N;have hN240:=S.count;have hmost:=S.most;go_in;go_wp2_with(first|refine eR rfl 74 rfl sG E4 ?_|refine kR rfl 169 0 1 _ _ rfl (.slice (some ⟨cb,co,none⟩) L cap) (.string input) rfl rfl (fJ (.slice (some ⟨cb,co,none⟩) L cap) input) (JJ _ _ _ _) ?_|refine aF rfl 169 _ rfl (.agg (fJ (.slice (some ⟨cb,co,none⟩) L cap) input)) rfl (fJ (.slice (some ⟨cb,co,none⟩) L cap) input) (LM _ _ _ _) ?_)
 have hB1:Below w.heap.size w ((w.alloc (.cells sG 74)).alloc (.cells (fJ (.slice (some ⟨cb,co,none⟩) L cap) input) 169)):=((Below.refl _ _).alloc (Nat.le_refl _) _).alloc (by simp) _;have hz1:((w.alloc (.cells sG 74)).alloc (.cells (fJ (.slice (some ⟨cb,co,none⟩) L cap) input) 169)).heap.size=w.heap.size+2:=by simp
 have hm1:((w.alloc (.cells sG 74)).alloc (.cells (fJ (.slice (some ⟨cb,co,none⟩) L cap) input) 169)).heap[w.heap.size+1]?=some (.cells (fJ (.slice (some ⟨cb,co,none⟩) L cap) input) 169 (0,0)):=heap_alloc2_new w _ _;have hr1:((w.alloc (.cells sG 74)).alloc (.cells (fJ (.slice (some ⟨cb,co,none⟩) L cap) input) 169)).heap[w.heap.size]?=some (.cells sG 74 (0,0)):=heap_alloc2_old w _ _
 generalize((w.alloc (.cells sG 74)).alloc (.cells (fJ (.slice (some ⟨cb,co,none⟩) L cap) input) 169))=w1 at*
 refine(l8 w1 cb co L cap N c S hN (C.below hB1)).mono ?_
 rintro e w2 ⟨v,hown,rfl,B2⟩;have B02:=hB1.trans (B2.mono hB1.size)
 obtain⟨gb,capb,rfl,hgb,hbr,hbm,hbc⟩:=iG hown hnB0
 have HPR:Hid (Calls Tryz.prog 66 #[.slice (some ⟨cb,co,none⟩) L cap] w2 fun e w'=>e=.returned (.bool withp)∧Below w2.heap.size w2 w'):=by
  have:=l5 w2 cb co L cap N c S hN (C.below B02)
  rw[hpr]at this;exact this
 have hgb2:gb<w2.heap.size:=by
  obtain⟨t,_,h2,_,_⟩:=yE (c:=c) (N:=N) N 0 hnB0
  exact block_lt_of_cell (hbc 0 _ h2)
 have HBC:Hid (∀k,k<bq c N N→∃t,t<N∧w2.cell? ⟨gb,k,none⟩=some (.int .i64 (pos c t))∧aM c t N=true∧bq c N t=k):=by
  intro k hk
  obtain⟨t,h1,h2,h3,h4⟩:=yE (c:=c) (N:=N) N k hk
  exact⟨t,h1,hbc k _ h2,h3,h4⟩
 clear hown hbc hpr;go_wp2_with fail
 refine HPR.out.mono ?_;rintro e w3 ⟨rfl,B3⟩;have B03:=B02.trans (B3.mono B02.size);have hz2:=B2.size;have hz3:=B3.size;have hm3:w3.heap[w.heap.size+1]?=some (.cells (fJ (.slice (some ⟨cb,co,none⟩) L cap) input) 169 (0,0)):=(B3.block _ (by omega)).trans ((B2.block _ (by omega)).trans hm1);have hr3:Hid (w3.heap[w.heap.size]?=some (.cells sG 74 (0,0))):=(B3.block _ (by omega)).trans ((B2.block _ (by omega)).trans hr1);have R3:=hid (BI hm3);have HB03:=hid B03;have HC3:=hid (C.below B03);have hgb3:gb<w3.heap.size:=by omega
 have hgbM:gb≠w.heap.size+1:=by omega
 have HBC3:Hid (∀k,k<bq c N N→∃t,t<N∧w3.cell? ⟨gb,k,none⟩=some (.int .i64 (pos c t))∧aM c t N=true∧bq c N t=k):=by
  intro k hk
  obtain⟨t,h1,h2,h3,h4⟩:=HBC.out k hk
  exact⟨t,h1,(B3.cell (p:=⟨gb,k,none⟩) hgb2).trans h2,h3,h4⟩
 have hM3:w.heap.size+1<w3.heap.size:=by omega
 generalize hMM:w.heap.size+1=M at*;have hMw:w.heap.size<M:=by omega
 have HI0:Hid (Inv L (fun p=>∃m,m<N∧pos c m=p) fuel (jm input)):=⟨Int.le_refl 0,by show(0:Int)≤300;omega,fun _=>hG.zero,by show 0≤32;omega,hin,by show 0≤16;omega,Int.le_refl 0,hf0,fun _=>Int.le_refl 0,Int.le_refl 0,by show(0:Int)≤256;omega⟩;clear hm3 hr1 hm1 hB1 B02 B03 HBC HPR B2 B3 C hMM;go_wp2_with fail
 go_loopg [11] (mu fuel (jm input)) (fun g _ wr=>∃(n:Nat) (τ:RS) (ρ:RR) (vs:Value),τ=after c aY fuel (jm input) n∧g=mu fuel τ∧Inv L (fun p=>∃m,m<N∧pos c m=p) fuel τ∧(∀m,m<n→(after c aY fuel (jm input) m).σ.ended=false)∧Rel input ρ τ∧
   cz M wr (.slice (some ⟨cb,co,none⟩) L cap) vs input ρ∧Kept w3.heap.size M w3 wr)
 case atStart=>exact ⟨0,jm input,r0,_,rfl,rfl,HI0.out,fun m hm=>absurd hm (by omega),BH input,R3.out,Kept.refl _ _ _⟩
 case round=>
  clear HI0 R3
  obtain⟨n,τ,ρ,vs,hτ,hgk,hI,hN',hRel,hR,hK⟩:=hrel
  have hK0:=hid hK;have c91:wr.cell? ⟨M,91,none⟩=some (.bool ρ.over):=hR.cell 91 (by omega);rw[hRel.over]at c91;have hMr:M<wr.heap.size:=hR.jt
  cases hend:τ.σ.ended with
  |false=>
   rw[hend]at c91;have Al:=hRel.alive hend
   obtain⟨m,hm,hmp⟩:=hI.start hend
   have hnx:τ.σ.next=(pos c m:Int):=by have:=hI.vA;omega
   have hhere:ρ.here=(pos c m:Int):=Al.here.trans hnx
   obtain⟨kk,A,_⟩:=S.at hm
   have hst:(fun p=>∃m,m<N∧pos c m=p) (pos c m):=⟨m,hm,rfl⟩
   obtain⟨n0,n1⟩:=fM hG hst
   have hkc:(c (pos c m)).toNat=kk:=by rw[A.op];omega
   have hpL:=A.lt;have hk20:=A.k;have hi1:(pos c m:Int)<(L:Int):=(by omega);have hcbM:cb≠M:=(by omega);have hfin:Hid (∀(w4:World) (vs4:Value),cz M w4 (.slice (some ⟨cb,co,none⟩) L cap) vs4 input (fD input c aY fuel ρ)→Kept w3.heap.size M w3 w4→
     mu fuel (cW c aY fuel τ)<gk∧∃(n:Nat) (τ':RS) (ρ':RR) (vs:Value),τ'=after c aY fuel (jm input) n∧mu fuel (cW c aY fuel τ)=mu fuel τ'∧Inv L (fun p=>∃m,m<N∧pos c m=p) fuel τ'∧(∀m,m<n→(after c aY fuel (jm input) m).σ.ended=false)∧Rel input ρ' τ'∧
      cz M w4 (.slice (some ⟨cb,co,none⟩) L cap) vs input ρ'∧Kept w3.heap.size M w3 w4):=by
    intro w4 vs4 hR4 hK4;have AA:=qs (aY:=aY) hG hE hI hend
    refine⟨by rw[hgk];exact AA.2,n+1,cW c aY fuel τ,fD input c aY fuel ρ,vs4,by rw[hτ];rfl,rfl,AA.1,?_,BG hG hI hRel hend,hR4,hK4⟩
    intro m hm;by_cases e:m=n
    ·subst e;rw[←hτ];exact hend
    ·exact hN' m (by omega)
   have hround:Hid (fD input c aY fuel ρ=if kk=20 then{eV (aY (pos c m)) ρ with here:=(pos c m:Int)+2}else if fuel≤ρ.steps then mz (eV (aY (pos c m)) ρ) 2 0 else p8 input (eV (aY (pos c m)) ρ) kk (second c (pos c m))):=by
    show fD input c aY fuel ρ=_;unfold fD;rw[hhere,Int.toNat_natCast,hkc]
   obtain⟨ρ1,hρ1⟩:∃ρ1,eV (aY (pos c m)) ρ=ρ1:=⟨_,rfl⟩
   have hsame:ρ1.stack=ρ.stack∧ρ1.read=ρ.read∧ρ1.here=ρ.here∧ρ1.out=ρ.out∧ρ1.steps=ρ.steps:=by rw[←hρ1];unfold eV;split<;>exact ⟨rfl,rfl,rfl,rfl,rfl⟩
   have hstep:Hid (∀(wx:World) (vs1:Value),cz M wx (.slice (some ⟨cb,co,none⟩) L cap) vs1 input ρ1→Kept w3.heap.size M w3 wx→kk≠20→ρ.steps<fuel→Calls Tryz.prog 109 #[.pointer (some ⟨M,0,none⟩)] wx (fI M wx (.slice (some ⟨cb,co,none⟩) L cap) input (p8 input ρ1 kk (second c (pos c m))))):=by
    intro wx vs1 hRx hKx hk hfu;have hcx:∀i,i<L→wx.cell? ⟨cb,co+i,none⟩=some (.int .u8 (c i)):=fun i hi=>(hKx.cell (p:=⟨cb,co+i,none⟩) (by show cb<w3.heap.size;omega) hcbM).trans (HC3.out.cell i hi)
    have hsz:=bS kk (by omega);have hfit:=A.fits;refine BF M wx vs1 input ρ1 cb co L cap (pos c m) kk (second c (pos c m)) ⟨hRx,hsame.2.2.1.trans hhere,?_,hpL,?_,?_,n0,n1,hcbM,hroom,hroom',S.most,by omega,?_,?_,?_⟩ ?_ ?_ ?_ ?_ ?_
    ·have:=hcx _ hpL;rw[A.op]at this;exact this
    ·intro h2
     refine⟨by omega,?_⟩
     unfold second;rw[hkc,if_pos (by omega)];exact hcx _ (by omega)
    ·intro h2;unfold second;rw[hkc,if_neg (by omega)]
    ·rw[hsame.1,Al.stack];exact hI.stack
    ·rw[hsame.2.2.2.2,hRel.steps];exact hI.tQ
    ·rw[hsame.2.2.2.2,hRel.steps];have:=hI.steps;omega
    ·intro h16;have e2:aX (kk*3)=2:=by rcases h16 with h|h<;>rw [h]<;>rfl
     unfold second;rw[hkc,if_pos e2];have hop:=A.op;exact hG.cell _ hst (by omega)
    ·rw[hsame.1,Al.stack];exact Al.num
    ·rw[hsame.2.1];exact Al.LH
    ·rw[hsame.2.1];have:=Al.LI;omega
    ·rw[hsame.2.2.2.1,hRel.out,strOfNums_size];have:=hI.out;omega
   have hcnts:Hid (0≤ρ.ah∧ρ.ah≤1000∧∀i,0≤ρ.cnt i):=⟨by rw[hRel.ah];exact hI.LF,by rw[hRel.ah];have:=hI.ah;omega,fun i=>by rw[hRel.cnt];exact hI.cnt i⟩;have hck3:=HC3.out.cell _ hpL;rw[A.op]at hck3;have hentm:=hent m hm;have hb255:=S.byte;have hszf:=A.fits;have hop:=A.op;have HH:=hid hhere;have HS1:Hid (ρ1.here=ρ.here∧ρ1.steps=ρ.steps):=⟨hsame.2.2.1,hsame.2.2.2.2⟩;clear hτ hgk hI hN' hRel hK hG hE Al hst hhere hnx hmp hsame
   cases withp with
   |false=>
    have hkk:kk≠20:=by have:=h20 rfl m hm;omega
    have hk20':((kk:Int)==20)=false:=by rw[beq_eq_false_iff_ne];omega
    simp only[Bool.false_eq_true,if_false]at hentm;have HENT:=hid hentm;have HR:=hid hR;clear hentm hR h20 hent;go_wp2_with fail
    go_loopw [11] (fun i wx=>∃k:Nat,k≤bq c N N∧i=.int .i64 k∧(∃vs',cz M wx (.slice (some ⟨cb,co,none⟩) L cap) vs' input (if aM c m N=true∧bq c N m<k then eV (bq c N m:Int) ρ else ρ))∧Kept w3.heap.size M w3 wx) (fun i _=>bq c N N-(intOf i).toNat)
    case atStart=>exact ⟨0,by omega,rfl,⟨vs,by rw[if_neg (fun h=>by omega)];exact HR.out⟩,hK0.out⟩
    case round=>
     clear HR hK0
     obtain⟨k,hk,rfl,⟨vsx,hRx⟩,hKx⟩:=hrel
     by_cases hlt:k<bq c N N
     ·obtain⟨t,ht,hbt,hrt,hct⟩:=HBC3.out k hlt
      have hbx:=(hKx.cell (p:=⟨gb,k,none⟩) hgb3 hgbM).trans hbt;have c20:wr.cell? ⟨M,20,none⟩=some (.int .i64 (pos c m:Int)):=(hRx.cell 20 (by omega)).trans (by
       have:(if aM c m N=true∧bq c N m<k then eV (bq c N m:Int) ρ else ρ).here=ρ.here:=by unfold eV;split<;>(try split)<;>rfl
       show some (Value.int .i64 (if aM c m N=true∧bq c N m<k then eV (bq c N m:Int) ρ else ρ).here)=_;rw[this,HH.out])
      have hik:(k:Int)<(bq c N N:Int):=(by omega);by_cases htm:t=m
      ·subst htm;have e0:(if aM c t N=true∧bq c N t<k then eV (bq c N t:Int) ρ else ρ)=ρ:=if_neg (fun h=>by omega);rw[e0]at hRx;have e1:(if aM c t N=true∧bq c N t<k+1 then eV (bq c N t:Int) ρ else ρ)={ρ with cnt:=fW ρ.cnt ρ.ah (k:Int),ah:=(k:Int)+1}:=by
        rw[if_pos ⟨hrt,by omega⟩,hct];unfold eV;rw[if_neg (by omega)]
       have HB:Hid (∀wy:World,wy.heap=wr.heap→Calls Tryz.prog 107 #[.pointer (some ⟨M,0,none⟩),.int .i64 (k:Int)] wy fun e w'=>e=.returned (.tuple #[])∧cz M w' (.slice (some ⟨cb,co,none⟩) L cap) vsx input {ρ with cnt:=fW ρ.cnt ρ.ah (k:Int),ah:=(k:Int)+1}∧di M wy w'):=fun wy hy=>
        oW M wy _ _ input ρ (k:Int) (hRx.same hy) hcnts.out.1 hcnts.out.2.1 (by omega) (by omega) hcnts.out.2.2
       have HE1:=hid e1;have HKx:=hid hKx;have hsq:((pos c t:Int)==(pos c t:Int))=true:=(by simp);clear hRx e0 e1 hKx;go_wp2_with fail
       go_quiet(fail)
       go_wp2_with fail
       refine(HB.out _ ?hp).mono ?_
       case hp=>rfl
       rintro e w5 ⟨rfl,R5,O5⟩;have HR5:Hid (cz M w5 (.slice (some ⟨cb,co,none⟩) L cap) vsx input {ρ with cnt:=fW ρ.cnt ρ.ah (k:Int),ah:=(k:Int)+1}∧Kept w3.heap.size M w3 w5):=⟨R5,(Kept.mU O5).from HKx.out rfl rfl rfl rfl⟩;clear R5 O5;go_wp2_with fail
       go_roundw
       case rel=>exact ⟨k+1,by omega,by go_num,⟨vsx,by rw[HE1.out];exact HR5.out.1⟩,HR5.out.2⟩
       case measure=>simp [intOf];omega
      ·have hpne:((pos c t:Int)==(pos c m:Int))=false:=by
        rw[beq_eq_false_iff_ne];intro h;exact htm (S.inj (by omega) (by omega) (by omega))
       have e1:(if aM c m N=true∧bq c N m<k+1 then eV (bq c N m:Int) ρ else ρ)=(if aM c m N=true∧bq c N m<k then eV (bq c N m:Int) ρ else ρ):=by
        by_cases hq:aM c m N=true∧bq c N m<k
        ·rw[if_pos hq,if_pos ⟨hq.1,by omega⟩]
        ·rw[if_neg hq,if_neg (fun h=>hq ⟨h.1,by
          have hne2:bq c N m≠k:=fun e=>htm (E5 hrt h.1 (by omega))
          omega⟩)]
       have HR5:Hid (cz M wr (.slice (some ⟨cb,co,none⟩) L cap) vsx input (if aM c m N=true∧bq c N m<k+1 then eV (bq c N m:Int) ρ else ρ)∧Kept w3.heap.size M w3 wr):=⟨by rw[e1];exact hRx,hKx⟩;clear hRx e1 hKx;go_wp2_with fail
       go_quiet(fail)
       go_wp2_with fail
       go_roundw
       case rel=>exact ⟨k+1,by omega,by go_num,⟨vsx,HR5.out.1.same rfl⟩,(Kept.refl _ _ _).from HR5.out.2 rfl rfl rfl rfl⟩
       case measure=>simp [intOf];omega
     ·have ek:k=bq c N N:=(by omega);subst ek;have hcame:(if aM c m N=true∧bq c N m<bq c N N then eV (bq c N m:Int) ρ else ρ)=ρ1:=by
       rw[←hρ1,HENT.out]
       cases hb:aM c m N with
       |true=>rw [if_pos ⟨rfl,ko hb hm⟩,if_pos rfl]
       |false=>rw [if_neg (fun h=>by cases h.1),if_neg (by simp)];rfl
      rw[hcame]at hRx;have hKK:¬((bq c N N:Nat):Int)<((bq c N N:Nat):Int):=(by omega);clear hcame HENT;have c20:wr.cell? ⟨M,20,none⟩=some (.int .i64 (pos c m:Int)):=(hRx.cell 20 (by omega)).trans (by show some (Value.int .i64 ρ1.here)=_;rw[HS1.out.1,HH.out]);have Hg:wr.cell? ⟨M,90,none⟩=some (.int .i64 ρ.steps):=(hRx.cell 90 (by omega)).trans (by show some (Value.int .i64 ρ1.steps)=_;rw[HS1.out.2]);have hckx:wr.cell? ⟨cb,co+pos c m,none⟩=some (.int .u8 (kk:Int)):=(hKx.cell (p:=⟨cb,co+pos c m,none⟩) (by show cb<w3.heap.size;omega) hcbM).trans hck3;by_cases hfu:fuel≤ρ.steps
      ·have HE:=hid (oy M wr _ _ input ρ1 2 0 hRx);have HF:Hid (∀w4,cz M w4 (.slice (some ⟨cb,co,none⟩) L cap) vsx input (mz ρ1 2 0)→di M wr w4→cz M w4 (.slice (some ⟨cb,co,none⟩) L cap) vsx input (fD input c aY fuel ρ)∧Kept w3.heap.size M w3 w4):=by
        intro w4 h4 o4;rw[hround.out,if_neg (by omega),if_pos hfu,hρ1]
        exact⟨h4,hKx.trans (Kept.mU o4)⟩
       have hdf:decide (fuel≤ρ.steps)=true:=by simp;exact hfu
       clear hRx hKx hρ1 hround;go_wp2_with fail
       refine HE.out.mono ?_;rintro e w4 ⟨rfl,R4,O4⟩
       obtain⟨R5,K5⟩:=HF.out w4 R4 O4
       have F:=hfin.out w4 _ R5 K5;go_wp2_with fail
       go_roundg (mu fuel (cW c aY fuel τ))
       case measure=>exact F.1
       case rel=>exact F.2
      ·have HE:=hid (hstep.out wr vsx hRx hKx (by omega) (by omega));have HF:Hid (∀w4 vs4,cz M w4 (.slice (some ⟨cb,co,none⟩) L cap) vs4 input (p8 input ρ1 kk (second c (pos c m)))→Kept wr.heap.size M wr w4→cz M w4 (.slice (some ⟨cb,co,none⟩) L cap) vs4 input (fD input c aY fuel ρ)∧Kept w3.heap.size M w3 w4):=by
        intro w4 vs4 h4 k4;rw[hround.out,if_neg (by omega),if_neg hfu,hρ1]
        exact⟨h4,hKx.then' k4 hKx.size⟩
       have hdf:decide (fuel≤ρ.steps)=false:=by simp;omega
       have hfu':¬fuel≤ρ.steps:=hfu;clear hRx hKx hρ1 hround;go_wp2_with fail
       refine HE.out.mono ?_;rintro e w4 ⟨rfl,⟨vs4,R4⟩,K4⟩
       obtain⟨R5,K5⟩:=HF.out w4 vs4 R4 K4
       have F:=hfin.out w4 _ R5 K5;go_wp2_with fail
       go_roundg (mu fuel (cW c aY fuel τ))
       case measure=>exact F.1
       case rel=>exact F.2
   |true=>
    simp only[if_true]at hentm;have HENT:=hid hentm;have HR:=hid hR;clear hentm hR h20 hent;go_wp2_with fail
    go_loopw [11] (fun i wx=>i=.int .i64 0∧cz M wx (.slice (some ⟨cb,co,none⟩) L cap) vs input ρ∧Kept w3.heap.size M w3 wx) (fun i _=>0)
    case atStart=>exact ⟨rfl,HR.out,hK0.out⟩
    case round=>
     clear HR hK0
     obtain⟨rfl,hRx,hKx⟩:=hrel
     have hgg':(0:Int)<((bq c N N:Nat):Int):=(by omega);by_cases hkk:kk=20
     ·have hk20':((kk:Int)==20)=true:=by rw[beq_iff_eq];omega
      have hsz2:bp kk=2:=by rw[hkk];rfl
      have hp1:pos c m+1<L:=(by omega);have hby:=hb255 (pos c m+1) hp1;have c20:wr.cell? ⟨M,20,none⟩=some (.int .i64 (pos c m:Int)):=(hRx.cell 20 (by omega)).trans (by show some (Value.int .i64 ρ.here)=_;rw[HH.out]);have hckx:wr.cell? ⟨cb,co+pos c m,none⟩=some (.int .u8 (kk:Int)):=(hKx.cell (p:=⟨cb,co+pos c m,none⟩) (by show cb<w3.heap.size;omega) hcbM).trans hck3;have hckx2:wr.cell? ⟨cb,co+(pos c m+1),none⟩=some (.int .u8 (c (pos c m+1))):=(hKx.cell (p:=⟨cb,co+(pos c m+1),none⟩) (by show cb<w3.heap.size;omega) hcbM).trans (HC3.out.cell _ hp1);have hi2:(pos c m:Int)+1<(L:Int):=(by omega);have hE1:Hid (fD input c aY fuel ρ={ρ with cnt:=fW ρ.cnt ρ.ah (c (pos c m+1)),ah:=c (pos c m+1)+1,here:=(pos c m:Int)+2}):=by
       show fD input c aY fuel ρ=_;rw[hround.out,if_pos hkk,HENT.out,if_pos (by omega)];unfold eV;rw[if_neg (by omega)]
      have HB:Hid (Calls Tryz.prog 107 #[.pointer (some ⟨M,0,none⟩),.int .i64 (c (pos c m+1))] wr fun e w'=>e=.returned (.tuple #[])∧cz M w' (.slice (some ⟨cb,co,none⟩) L cap) vs input {ρ with cnt:=fW ρ.cnt ρ.ah (c (pos c m+1)),ah:=c (pos c m+1)+1}∧di M wr w'):=
       oW M wr _ _ input ρ _ hRx hcnts.out.1 hcnts.out.2.1 (by omega) (by omega) hcnts.out.2.2
      have HKx:=hid hKx;have hb0:=hby.1;have hb1:=hby.2;clear hRx hKx hρ1 hround HENT hby hkk hsz2;go_wp2_with fail
      refine HB.out.mono ?_;rintro e w5 ⟨rfl,R5,O5⟩;have d20:w5.cell? ⟨M,20,none⟩=some (.int .i64 (pos c m:Int)):=(R5.cell 20 (by omega)).trans (by show some (Value.int .i64 ρ.here)=_;rw[HH.out]);have f20:=R5.thaw 20;have HR6:Hid (cz M (w5.setCell ⟨M,20,none⟩ (.int .i64 ((pos c m:Int)+2))) (.slice (some ⟨cb,co,none⟩) L cap) vs input {ρ with cnt:=fW ρ.cnt ρ.ah (c (pos c m+1)),ah:=c (pos c m+1)+1,here:=(pos c m:Int)+2}∧Kept w3.heap.size M w3 (w5.setCell ⟨M,20,none⟩ (.int .i64 ((pos c m:Int)+2)))):=⟨R5.Ai _,(HKx.out.trans (Kept.mU O5)).trans (Kept.set _ _ _ _ _)⟩;clear R5 O5;have F:=hfin.out _ vs (by rw[hE1.out];exact HR6.out.1) HR6.out.2;go_wp2_with fail
      go_roundg (mu fuel (cW c aY fuel τ))
      case measure=>exact F.1
      case rel=>exact F.2
     ·have hk20':((kk:Int)==20)=false:=by rw[beq_eq_false_iff_ne];omega
      have hcame:ρ=ρ1:=by
       rw[←hρ1,HENT.out,if_neg (by omega)];rfl
      rw[hcame]at hRx;have hst1:=hid hcame;clear hcame HENT;have c20:wr.cell? ⟨M,20,none⟩=some (.int .i64 (pos c m:Int)):=(hRx.cell 20 (by omega)).trans (by show some (Value.int .i64 ρ1.here)=_;rw[HS1.out.1,HH.out]);have Hg:wr.cell? ⟨M,90,none⟩=some (.int .i64 ρ.steps):=(hRx.cell 90 (by omega)).trans (by show some (Value.int .i64 ρ1.steps)=_;rw[HS1.out.2]);have hckx:wr.cell? ⟨cb,co+pos c m,none⟩=some (.int .u8 (kk:Int)):=(hKx.cell (p:=⟨cb,co+pos c m,none⟩) (by show cb<w3.heap.size;omega) hcbM).trans hck3;by_cases hfu:fuel≤ρ.steps
      ·have HE:=hid (oy M wr _ _ input ρ1 2 0 hRx);have HF:Hid (∀w4,cz M w4 (.slice (some ⟨cb,co,none⟩) L cap) vs input (mz ρ1 2 0)→di M wr w4→cz M w4 (.slice (some ⟨cb,co,none⟩) L cap) vs input (fD input c aY fuel ρ)∧Kept w3.heap.size M w3 w4):=by
        intro w4 h4 o4;rw[hround.out,if_neg (by omega),if_pos hfu,hρ1]
        exact⟨h4,hKx.trans (Kept.mU o4)⟩
       have hdf:decide (fuel≤ρ.steps)=true:=by simp;exact hfu
       clear hRx hKx hρ1 hround;go_wp2_with fail
       refine HE.out.mono ?_;rintro e w4 ⟨rfl,R4,O4⟩
       obtain⟨R5,K5⟩:=HF.out w4 R4 O4
       have F:=hfin.out w4 _ R5 K5;go_wp2_with fail
       go_roundg (mu fuel (cW c aY fuel τ))
       case measure=>exact F.1
       case rel=>exact F.2
      ·have HE:=hid (hstep.out wr vs hRx hKx (by omega) (by omega));have HF:Hid (∀w4 vs4,cz M w4 (.slice (some ⟨cb,co,none⟩) L cap) vs4 input (p8 input ρ1 kk (second c (pos c m)))→Kept wr.heap.size M wr w4→cz M w4 (.slice (some ⟨cb,co,none⟩) L cap) vs4 input (fD input c aY fuel ρ)∧Kept w3.heap.size M w3 w4):=by
        intro w4 vs4 h4 k4;rw[hround.out,if_neg (by omega),if_neg hfu,hρ1]
        exact⟨h4,hKx.then' k4 hKx.size⟩
       have hdf:decide (fuel≤ρ.steps)=false:=by simp;omega
       have hfu':¬fuel≤ρ.steps:=hfu;clear hRx hKx hρ1 hround;go_wp2_with fail
       refine HE.out.mono ?_;rintro e w4 ⟨rfl,⟨vs4,R4⟩,K4⟩
       obtain⟨R5,K5⟩:=HF.out w4 vs4 R4 K4
       have F:=hfin.out w4 _ R5 K5;go_wp2_with fail
       go_roundg (mu fuel (cW c aY fuel τ))
       case measure=>exact F.1
       case rel=>exact F.2
  |true=>
   rw[hend]at c91;have hcov:Hid (∀i,i<64→wr.cell? ⟨M,21+i,none⟩=some (.int .i64 (τ.cnt i))):=fun i hi=>(hR.cell (21+i) (by omega)).trans (by
    unfold cQ;rw[if_neg (by omega),if_neg (by omega),if_neg (by omega),if_neg (by omega),if_neg (by omega),if_neg (by omega),if_pos (by omega),Nat.add_sub_cancel_left,hRel.cnt])
   have c86:wr.cell? ⟨M,86,none⟩=some (.int .i64 τ.σ.kind):=(hR.cell 86 (by omega)).trans (by show some (Value.int .i64 ρ.kind)=_;rw[hRel.kind]);have c87:wr.cell? ⟨M,87,none⟩=some (.int .i64 τ.σ.fault):=(hR.cell 87 (by omega)).trans (by show some (Value.int .i64 ρ.fault)=_;rw[hRel.fault]);have c88:wr.cell? ⟨M,88,none⟩=some (.int .i64 τ.σ.place):=(hR.cell 88 (by omega)).trans (by show some (Value.int .i64 ρ.place)=_;rw[hRel.place hend]);have GV:wr.cell? ⟨M,89,none⟩=some (.string (strOfNums τ.σ.out)):=(hR.cell 89 (by omega)).trans (by show some (Value.string ρ.out)=_;rw[hRel.out]);have Hg:wr.cell? ⟨M,90,none⟩=some (.int .i64 τ.σ.steps):=(hR.cell 90 (by omega)).trans (by show some (Value.int .i64 ρ.steps)=_;rw[hRel.steps]);have hcn:=hid hI.cnt;have hH:wr.heap[w.heap.size]?=some (.cells sG 74 (0,0)):=(hK.block _ (by omega) (by omega)).trans hr3.out;have hBw:Below w.heap.size w wr:=⟨hK.os.trans HB03.out.os,hK.tape.trans HB03.out.tape,hK.output.trans HB03.out.output,Nat.le_trans HB03.out.size hK.size,fun k hk=>(hK.block k (by omega) (by omega)).trans (HB03.out.block k hk)⟩;have HFIN:Hid (τ=after c aY fuel (jm input) n∧τ.σ.ended=true∧∀m,m<n→(after c aY fuel (jm input) m).σ.ended=false):=⟨hτ,hend,hN'⟩
   obtain⟨so,hso⟩:∃so,strOfNums τ.σ.out=so:=⟨_,rfl⟩
   rw[hso]at GV;have HSO:=hid hso;have hmk:=y9;clear hτ hgk hI hN' hRel hR hK hK0 hG hE hent h20 hso hend HBC3 HC3 hr3
   obtain⟨kd,hkd⟩:∃x,τ.σ.kind=x:=⟨_,rfl⟩
   obtain⟨fl,hfl⟩:∃x,τ.σ.fault=x:=⟨_,rfl⟩
   obtain⟨pl,hpl⟩:∃x,τ.σ.place=x:=⟨_,rfl⟩
   obtain⟨st,hst⟩:∃x,τ.σ.steps=x:=⟨_,rfl⟩
   rw[hkd]at c86;rw[hfl]at c87;rw[hpl]at c88;rw[hst]at Hg;have HEQ:Hid (τ.σ.kind=kd∧τ.σ.fault=fl∧τ.σ.place=pl∧τ.σ.steps=st):=⟨hkd,hfl,hpl,hst⟩;clear hkd hfl hpl hst
   obtain⟨wd,hwd⟩:∃wd,wd=wr:=⟨wr,rfl⟩
   subst hwd;have hsd:=hBw.size;have HBW:=hid hBw;have HHH:=hid hH;clear hBw hH;go_wp2_with fail
   clear hmk;go_loopw [13] (fun i wx=>∃k:Nat,k≤64∧i=.int .i64 k∧wx.heap[wd.heap.size]?=some (.cells (fU τ.cnt k).toArray 5 (0,0))∧Below wd.heap.size wd wx) (fun i _=>64-(intOf i).toNat)
   case atStart=>exact ⟨0,by omega,rfl,by rw[←sF];exact heap_alloc_new wd _,(Below.refl _ _).alloc (Nat.le_refl _) _⟩
   case round=>
    obtain⟨k,hk,rfl,hh,hB⟩:=hrel
    by_cases hlt:k<64
    ·have cM:wr.cell? ⟨M,21+k,none⟩=some (.int .i64 (τ.cnt k)):=(hB.cell (p:=⟨M,21+k,none⟩) hMr).trans (hcov.out k hlt);have c1:wr.cell? ⟨wd.heap.size,k,none⟩=some (.int .u8 (if k<k then dU (τ.cnt k)else 0)):=by
      rw[cell_of_row wr wd.heap.size k _ _ _ hh,List.getElem?_toArray];exact jN τ.cnt k k hlt
     have f1:=frozen_of_row wr wd.heap.size k _ _ hh;have R:(wr.setCell ⟨wd.heap.size,k,none⟩ (.int .u8 (dU (τ.cnt k)))).heap[wd.heap.size]?=some (.cells (fU τ.cnt (k+1)).toArray 5 (0,0)):=by
      rw[heap_setCell_same wr wd.heap.size k _ _ _ hh,←vz τ.cnt k hlt]
      simp
     have B2:=hB.setCell (p:=⟨wd.heap.size,k,none⟩) (Nat.le_refl _) (.int .u8 (dU (τ.cnt k)));have HR2:Hid ((wr.setCell ⟨wd.heap.size,k,none⟩ (.int .u8 (dU (τ.cnt k)))).heap[wd.heap.size]?=some (.cells (fU τ.cnt (k+1)).toArray 5 (0,0))∧Below wd.heap.size wd (wr.setCell ⟨wd.heap.size,k,none⟩ (.int .u8 (dU (τ.cnt k))))):=⟨R,B2⟩;have hck:=hcn.out k;have hlt':(k:Int)<64:=(by omega);clear R hh B2 hB;go_wp2_with(go_at_call 110;refine(yl _ hck _).mono ?_;rintro e w' ⟨rfl,rfl⟩)
     go_roundw
     case rel=>exact ⟨k+1,by omega,by go_num,HR2.out.1,HR2.out.2⟩
     case measure=>simp [intOf];omega
    ·have e:k=64:=(by omega);subst e;have hH:wr.heap[w.heap.size]?=some (.cells sG 74 (0,0)):=(hB.block _ (by omega)).trans HHH.out;have i0:wr.cell? ⟨w.heap.size,0,none⟩=some (.int .i64 0):=cell_of_row _ _ _ _ _ _ hH;have i1:wr.cell? ⟨w.heap.size,1,none⟩=some (.int .i64 0):=cell_of_row _ _ _ _ _ _ hH;have i2:wr.cell? ⟨w.heap.size,2,none⟩=some (.int .i64 0):=cell_of_row _ _ _ _ _ _ hH;have i3:wr.cell? ⟨w.heap.size,3,none⟩=some (.string ByteArray.empty):=cell_of_row _ _ _ _ _ _ hH;have i4:wr.cell? ⟨w.heap.size,4,none⟩=some (.int .i64 0):=cell_of_row _ _ _ _ _ _ hH;have j0:=frozen_of_row wr w.heap.size 0 _ _ hH;have j1:=frozen_of_row wr w.heap.size 1 _ _ hH;have j2:=frozen_of_row wr w.heap.size 2 _ _ hH;have j3:=frozen_of_row wr w.heap.size 3 _ _ hH;have j4:=frozen_of_row wr w.heap.size 4 _ _ hH;have d86:=(hB.cell (p:=⟨M,86,none⟩) hMr).trans c86;have d87:=(hB.cell (p:=⟨M,87,none⟩) hMr).trans c87;have d88:=(hB.cell (p:=⟨M,88,none⟩) hMr).trans c88;have d89:=(hB.cell (p:=⟨M,89,none⟩) hMr).trans GV;have d90:=(hB.cell (p:=⟨M,90,none⟩) hMr).trans Hg;have HBB:Hid (Below w.heap.size w wr∧wr.heap[wd.heap.size]?=some (.cells (fU τ.cnt 64).toArray 5 (0,0))):=⟨HBW.out.trans (hB.mono hsd),hh⟩;clear hB hh hH c86 c87 c88 GV Hg;go_wp2
     obtain⟨F1,F2,F3⟩:=HFIN.out
     obtain⟨BB,hg4⟩:=HBB.out
     refine bodyPost_ret (v:=.tuple #[.agg #[.int .i64 kd,.int .i64 fl,.int .i64 pl,.string so,.int .i64 st],.slice (some ⟨wd.heap.size,0,none⟩) 64 64]) (by simp[results,Tryz.results67,go_sem,i0,i1,i2,i3,i4]) rfl ?_
     refine⟨n,τ,F1,F2,F3,?_,wd.heap.size,hsd,?_,?_⟩
     ·repeat(first|exact BB|refine aH ?_ _ _|refine Below.drew ?_)
     ·refine(heap_setCell_other _ ⟨w.heap.size,4,none⟩ _ _ (by show wd.heap.size≠w.heap.size;omega)).trans ?_
      refine(heap_setCell_other _ ⟨w.heap.size,3,none⟩ _ _ (by show wd.heap.size≠w.heap.size;omega)).trans ?_
      refine(heap_setCell_other _ ⟨w.heap.size,2,none⟩ _ _ (by show wd.heap.size≠w.heap.size;omega)).trans ?_
      refine(heap_setCell_other _ ⟨w.heap.size,1,none⟩ _ _ (by show wd.heap.size≠w.heap.size;omega)).trans ?_
      refine(heap_setCell_other _ ⟨w.heap.size,0,none⟩ _ _ (by show wd.heap.size≠w.heap.size;omega)).trans ?_
      exact hg4
     ·rw[HSO.out,HEQ.out.1,HEQ.out.2.1,HEQ.out.2.2.1,HEQ.out.2.2.2]
end Go.Proofs.YtmpgjkhchfcjlaaGreatDoor
