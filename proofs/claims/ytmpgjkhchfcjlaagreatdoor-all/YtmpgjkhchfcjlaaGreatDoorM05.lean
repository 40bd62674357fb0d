import Derived.Test.YtmpgjkhchfcjlaaGreatDoorM04
namespace Go.Proofs.YtmpgjkhchfcjlaaGreatDoor
open Go.RowKit
set_option maxHeartbeats 1000000
structure SP (c:Nat→Int) (L N z:Nat):Prop where
 most:L≤240
 z20:z≤20
 byte:∀i,i<L→0≤c i∧c i≤255
 op:∀m,m<N→c (pos c m)≤(z:Int)
 fits:∀m,m<N→pos c m+bp (c (pos c m)).toNat≤L
 cell:∀m,m<N→dB (c (pos c m))=true→c (pos c m+1)<16
theorem SP.lt {c:Nat→Int}{L N z:Nat}(S:SP c L N z){m:Nat}(hm:m<N):pos c m<L:=by
 have h1:=S.fits m hm;have h2:=S.op m hm;have h3:=S.z20
 have:=(bS (c (pos c m)).toNat (by omega)).1
 omega
theorem SP.le {c:Nat→Int}{L N z:Nat}(S:SP c L N z){m:Nat}(hm:m≤N):pos c m≤L:=by
 cases m with
 |zero=>exact Nat.zero_le _
 |succ m=>exact S.fits m (by omega)
structure M6 (c:Nat→Int) (L p kk z:Nat):Prop where
 lt:p<L
 most:L≤240
 op:c p=(kk:Int)
 k:kk≤20
 kz:kk≤z
 fits:p+bp kk≤L
 sz:((p+bp kk:Nat):Int)=(p:Int)+aX (kk*3)
 s1:1≤aX (kk*3)
 s2:aX (kk*3)≤2
 pos:1≤bp kk
theorem SP.at {c:Nat→Int}{L N z:Nat}(S:SP c L N z){m:Nat}(hm:m<N):∃kk,M6 c L (pos c m) kk z∧pos c (m+1)=pos c m+bp kk:=by
 have h1:=S.lt hm;have h2:=S.op m hm;have h3:=S.byte _ h1;have h4:=S.fits m hm;have h5:=S.z20
 obtain⟨a,b,d⟩:=bS (c (pos c m)).toNat (by omega)
 exact⟨(c (pos c m)).toNat,⟨h1,S.most,by omega,by omega,by omega,h4,by omega,by omega,by omega,a⟩,rfl⟩
def cB (c:Nat→Int)(L z p:Nat):Bool:=decide (c p≤(z:Int))&&decide (p+bp (c p).toNat≤L)&&(!dB (c p)||decide (c (p+1)<16))
theorem SP.succ {c:Nat→Int}{L N z:Nat}(S:SP c L N z)(h:cB c L z (pos c N)=true):SP c L (N+1) z:=by
 unfold cB at h
 simp only[Bool.and_eq_true,decide_eq_true_eq,Bool.or_eq_true,Bool.not_eq_true']at h
 obtain⟨⟨h1,h2⟩,h3⟩:=h
 refine⟨S.most,S.z20,S.byte,fun m hm=> ?_,fun m hm=> ?_,fun m hm hh=> ?_⟩
 all_goals
  by_cases e:m=N
  ·subst e
   first|exact h1|exact h2|(rcases h3 with h3|h3;·rw[h3]at hh;cases hh
                            ·exact h3)
  ·first|exact S.op m (by omega)|exact S.fits m (by omega)|exact S.cell m (by omega) hh
theorem ov {kk:Nat}(hb:dB (kk:Int)=true):bp kk=2∧aX (kk*3)=2:=by
 unfold dB at hb
 have:kk=16∨kk=17:=by simp at hb;omega
 rcases this with e|e<;>rw [e]<;>exact ⟨rfl,rfl⟩
theorem fC {kk:Nat}(hb:aW (kk:Int)=true):bp kk=2∧aX (kk*3)=2:=by
 unfold aW at hb
 have:kk=14∨kk=15:=by simp at hb;omega
 rcases this with e|e<;>rw [e]<;>exact ⟨rfl,rfl⟩
theorem vC (w:World)(cb o len cp:Nat)(x last:Int)(hl:last<x)(h1:1≤len)(c0:w.cell? ⟨cb,o,none⟩=some (.int .u8 x)):
  Calls Tryz.prog 180 #[.slice (some ⟨cb,o,none⟩) len cp,.int .u8 last] w fun e w'=>e=.returned (.bool false)∧Below w.heap.size w w':=by
 have hi0:(0:Int)<(len:Int):=by omega
 have hl2:decide (last<x)=true:=by simpa using hl
 go_in;go_wp2_with fail
 go_ret
 exact⟨rfl,Below.refl _ _⟩
theorem vD (w:World)(cb o len cp kk:Nat)(last:Int)(hk:kk≤20)(hl:(kk:Int)≤last)(hlen:(len:Int)<aX (kk*3))(h1:1≤len)(c0:w.cell? ⟨cb,o,none⟩=some (.int .u8 (kk:Int)))(hT:bK w):
  Calls Tryz.prog 180 #[.slice (some ⟨cb,o,none⟩) len cp,.int .u8 last] w fun e w'=>e=.returned (.bool false)∧Below w.heap.size w w':=by
 have hfs:=dD;have hi0:(0:Int)<(len:Int):=by omega
 have hl1:¬last<(kk:Int):=by omega
 have hl2:decide (last<(kk:Int))=false:=by simpa using hl
 have HT:=hid hT;clear hT;go_in;go_wp2_with(go_at_call 112;refine(ak kk (by omega) _ HT.out).mono ?_;rintro e w' ⟨rfl,cc,rfl⟩)
 go_ret
 exact⟨rfl,(Below.refl _ _).alloc (Nat.le_refl _) _⟩
theorem ya (w:World)(cb o len cp kk:Nat)(n last:Int)(hk:kk≤20)(hl:(kk:Int)≤last)(hlen:aX (kk*3)≤(len:Int))(h2:2≤len)(c0:w.cell? ⟨cb,o,none⟩=some (.int .u8 (kk:Int)))
  (hb:dB (kk:Int)=true)(c1:w.cell? ⟨cb,o+1,none⟩=some (.int .u8 n))(hn:16≤n)(hT:bK w):
  Calls Tryz.prog 180 #[.slice (some ⟨cb,o,none⟩) len cp,.int .u8 last] w fun e w'=>e=.returned (.bool false)∧Below w.heap.size w w':=by
 have hfs:=dD;have hi0:(0:Int)<(len:Int):=by omega
 have hi1:(1:Int)<(len:Int):=by omega
 have hl1:¬last<(kk:Int):=by omega
 have hl2:decide (last<(kk:Int))=false:=by simpa using hl
 have hl3:¬(len:Int)<aX (kk*3):=by omega
 have hn2:decide (n<16)=false:=by simp;omega
 have hcb:=block_lt_of_cell c0;have HT:=hid hT;clear hT;go_in;go_wp2_with(first|(go_at_call 112;refine(ak kk (by omega) _ HT.out).mono ?_;rintro e w' ⟨rfl,cc,rfl⟩)|(go_at_call 208;refine(oo _ _).mono ?_;rintro e w' ⟨rfl,rfl⟩))
 go_ret
 exact⟨rfl,(Below.refl _ _).alloc (Nat.le_refl _) _⟩
theorem Bq (w:World)(cb co L cap:Nat)(c:Nat→Int)(p z:Nat)(hp:p<L)(hz:z≤20)(hby:0≤c p)(C:Laid w cb co L cap c)(hT:bK w):
  Calls Tryz.prog 180 #[.slice (some ⟨cb,co+p,none⟩) (L-p) (cap-p),.int .u8 (z:Int)] w fun e w'=>e=.returned (.bool (cB c L z p))∧Below w.heap.size w w':=by
 have c0:=C.cell p hp;by_cases h1:c p≤(z:Int)
 ·obtain⟨kk,hkk⟩:∃kk:Nat,c p=(kk:Int):=⟨(c p).toNat,by omega⟩
  obtain⟨s1,s2,s3⟩:=bS kk (by omega)
  have hto:(c p).toNat=kk:=by omega
  rw[hkk]at c0;by_cases h2:p+bp kk≤L
  ·cases hb:dB (kk:Int)with
   |false=>
    have e:cB c L z p=true:=by unfold cB;rw[hto,hkk,hb];simp;omega
    rw[e]
    refine(oq w cb _ _ _ kk 0 z (by omega) (by omega) (by omega) (by omega) c0 (fun h=>by rw[hb]at h;cases h) hT).mono ?_
    rintro e w' ⟨rfl,cc,rfl⟩
    exact⟨rfl,(Below.refl _ _).alloc (Nat.le_refl _) _⟩
   |true=>
    obtain⟨t1,t2⟩:=ov hb
    have c1:=C.cell (p+1) (by omega);by_cases h3:c (p+1)<16
    ·have e:cB c L z p=true:=by unfold cB;rw[hto,hkk,hb];simp;omega
     rw[e]
     refine(oq w cb _ _ _ kk (c (p+1)) z (by omega) (by omega) (by omega) (by omega) c0 (fun _=>⟨by omega,c1,h3⟩) hT).mono ?_
     rintro e w' ⟨rfl,cc,rfl⟩
     exact⟨rfl,(Below.refl _ _).alloc (Nat.le_refl _) _⟩
    ·have e:cB c L z p=false:=by unfold cB;rw[hto,hkk,hb];simp;omega
     rw[e];exact ya w cb _ _ _ kk (c (p+1)) z (by omega) (by omega) (by omega) (by omega) c0 hb c1 (by omega) hT
  ·have e:cB c L z p=false:=by unfold cB;rw[hto];simp;omega
   rw[e];exact vD w cb _ _ _ kk z (by omega) (by omega) (by omega) (by omega) c0 hT
 ·have e:cB c L z p=false:=by unfold cB;simp;omega
  rw[e];exact vC w cb _ _ _ (c p) z (by omega) (by omega) c0
theorem qw (w:World)(cb co L cap z:Nat)(c:Nat→Int)(hL:L≤240)(hz:z≤20)(hby:∀i,i<L→0≤c i∧c i≤255)(C:Laid w cb co L cap c)(hT:bK w):
  Calls Tryz.prog 144 #[.slice (some ⟨cb,co,none⟩) L cap,.int .u8 (z:Int)] w fun e w'=>∃N,SP c L N z∧(pos c N=L∨pos c N<L∧cB c L z (pos c N)=false)∧e=.returned (.int .i64 (pos c N))∧Below w.heap.size w w':=by
 have hfs:=dD;have hroom:=C.room;go_in;go_wp2;go_loopw [5] (fun i wr=>∃m:Nat,SP c L m z∧i=.int .i64 (pos c m)∧Below w.heap.size w wr) (fun i _=>L-(intOf i).toNat)
 case atStart=>exact ⟨0,⟨hL,hz,hby,fun _ h=>by omega,fun _ h=>by omega,fun _ h=>by omega⟩,rfl,Below.refl _ _⟩
 case round=>
  obtain⟨m,S,rfl,hB⟩:=hrel
  have hle:=S.le (m:=m) (Nat.le_refl _);by_cases hlt:pos c m<L
  ·have hck:=C.at hB hlt;have hTr:=hid (hT.below hB);have hi1:(pos c m:Int)<(L:Int):=(by omega);have hi2:(pos c m:Int)≤(L:Int):=(by omega);have hcq:¬cap=pos c m:=(by omega);have hdec:decide ((pos c m:Int)<(L:Int))=true:=(by simpa using hi1);have hsnd:Hid (Calls Tryz.prog 180 #[.slice (some ⟨cb,co+pos c m,none⟩) (L-pos c m) (cap-pos c m),.int .u8 (z:Int)] wr fun e w'=>e=.returned (.bool (cB c L z (pos c m)))∧Below wr.heap.size wr w'):=Bq wr cb co L cap c _ z hlt hz (hby _ hlt).1 (C.below hB) hTr.out
   cases hs:cB c L z (pos c m)with
   |false=>
    rw[hs]at hsnd;go_wp2_with(go_at_call 180;refine(hsnd.out).mono ?_;rintro e w' ⟨rfl,hB2⟩)
    go_ret
    exact⟨m,S,Or.inr ⟨hlt,hs⟩,rfl,hB.trans (hB2.mono hB.size)⟩
   |true=>
    rw[hs]at hsnd;have S2:=S.succ hs
    obtain⟨kk,A,hsucc⟩:=S2.at (m:=m) (by omega)
    rw[A.op]at hck;have h1:=A.lt;have h2:=A.fits;have h3:=A.sz;have h4:=A.s1;have h5:=A.s2;have h6:=A.pos;have h7:=A.most;have hk:=A.k;have HS:=hid hsucc;have HZ:=hid h3;have HCK:Hid (∀wx,Below wr.heap.size wr wx→wx.cell? ⟨cb,co+pos c m,none⟩=some (.int .u8 (kk:Int))∧bK wx):=fun wx hx=>by
     have:=C.at (hB.trans (hx.mono hB.size)) hlt
     rw[A.op]at this
     exact⟨this,hT.below (hB.trans (hx.mono hB.size))⟩
    clear hsucc h3 A S hck;go_wp2_with(first|(go_at_call 180;refine(hsnd.out).mono ?_;rintro e wx ⟨rfl,hB2⟩;have hcx:=(HCK.out wx hB2).1)|(go_at_call 112;refine(ak kk (by omega) _ (HCK.out _ (by assumption)).2).mono ?_;rintro e w' ⟨rfl,cc2,rfl⟩))
    go_roundw
    case rel=>exact ⟨m+1,S2,by rw[HS.out,HZ.out],(hB.trans (hB2.mono hB.size)).alloc (by have:=hB.size;have:=hB2.size;omega) _⟩
    case measure=>simp [intOf];omega
  ·have e:pos c m=L:=(by omega);have hdec:decide ((L:Int)<(L:Int))=false:=(by simp);rw[e];go_wp2_with fail
   go_ret
   exact⟨m,S,Or.inl e,by rw[e];rfl,hB⟩
theorem tU (w:World)(cb co L cap N z:Nat)(c:Nat→Int)(V:SP c L N z)(hN:pos c N=L)(C:Laid w cb co L cap c)(hT:bK w):
  Calls Tryz.prog 145 #[.slice (some ⟨cb,co,none⟩) L cap] w fun e w'=>e=.returned (.bool (dL c N))∧Below w.heap.size w w':=by
 have hfs:=dD;go_in;go_wp2;go_loopw [3,4] (fun b i wr=>∃m:Nat,m≤N∧i=.int .i64 (pos c m)∧b=.bool (dL c m)∧Below w.heap.size w wr) (fun _ i _=>L-(intOf i).toNat)
 case atStart=>exact ⟨0,by omega,rfl,rfl,Below.refl _ _⟩
 case round=>
  obtain⟨m,hm,rfl,rfl,hB⟩:=hrel
  by_cases hlt:m<N
  ·obtain⟨kk,A,hsucc⟩:=V.at hlt
   have hck:=C.at hB A.lt;rw[A.op]at hck;have h1:=A.lt;have h2:=A.fits;have h3:=A.sz;have h4:=A.s1;have h5:=A.s2;have h6:=A.pos;have h7:=A.most;have hk:=A.k;have hTr:=hid (hT.below hB);have HS:=hid hsucc;have HZ:=hid h3;have hi1:(pos c m:Int)<(L:Int):=(by omega);have HW:Hid (dL c (m+1)=fZ (kk:Int)):=by
    show dL c (m+1)=_;unfold dL;rw[if_neg (by omega),Nat.add_sub_cancel,A.op]
   clear hsucc h3 A;go_wp2_with(first|(go_at_call 147;refine(jO _ _).mono ?_;rintro e w' ⟨rfl,rfl⟩)|(go_at_call 112;refine(ak kk (by omega) _ hTr.out).mono ?_;rintro e w' ⟨rfl,cc2,rfl⟩))
   go_roundw
   case rel=>exact ⟨m+1,by omega,by rw[HS.out,HZ.out],by rw[HW.out],hB.alloc (by have:=hB.size;omega) _⟩
   case measure=>simp [intOf];omega
  ·have e:m=N:=(by omega);subst e;rw[hN];go_wp2;go_ret
   exact⟨rfl,hB⟩
def bJ (c:Nat→Int)(N:Nat):Bool:=(List.range N).any fun t=>c (pos c t)==20
theorem nA (c:Nat→Int)(m:Nat):bJ c (m+1)=(bJ c m||c (pos c m)==20):=by
 unfold bJ;rw[List.range_succ,List.any_append]
 simp
theorem qx (c:Nat→Int){N m:Nat}(hm:m<N)(h:c (pos c m)=20):bJ c N=true:=by
 unfold bJ;rw[List.any_eq_true]
 exact⟨m,List.mem_range.2 hm,by simp[h]⟩
theorem qy (c:Nat→Int){N:Nat}(h:bJ c N=true):∃m,m<N∧c (pos c m)=20:=by
 unfold bJ at h;rw[List.any_eq_true]at h
 obtain⟨m,hm,e⟩:=h
 exact⟨m,List.mem_range.1 hm,by simpa using e⟩
theorem nB (w:World)(cb co L cap N z:Nat)(c:Nat→Int)(V:SP c L N z)(hN:pos c N=L)(C:Laid w cb co L cap c)(hT:bK w):
  Calls Tryz.prog 101 #[.slice (some ⟨cb,co,none⟩) L cap] w fun e w'=>e=.returned (.bool (bJ c N))∧Below w.heap.size w w':=by
 have hfs:=dD;go_in;go_wp2;go_loopw [3] (fun i wr=>∃m:Nat,m≤N∧i=.int .i64 (pos c m)∧bJ c m=false∧Below w.heap.size w wr) (fun i _=>L-(intOf i).toNat)
 case atStart=>exact ⟨0,by omega,rfl,rfl,Below.refl _ _⟩
 case round=>
  obtain⟨m,hm,rfl,hno,hB⟩:=hrel
  by_cases hlt:m<N
  ·obtain⟨kk,A,hsucc⟩:=V.at hlt
   have hck:=C.at hB A.lt;rw[A.op]at hck;have h1:=A.lt;have h2:=A.fits;have h3:=A.sz;have h4:=A.s1;have h5:=A.s2;have h6:=A.pos;have h7:=A.most;have hk:=A.k;have hTr:=hid (hT.below hB);have HS:=hid hsucc;have HZ:=hid h3;have hi1:(pos c m:Int)<(L:Int):=(by omega);have HP:=hid A.op;clear hsucc h3 A
   cases h20:((kk:Int)==20)with
   |false=>
    have HN:Hid (bJ c (m+1)=false):=by
     show bJ c (m+1)=false;rw[nA,hno,HP.out,h20];rfl
    clear hno;go_wp2_with(go_at_call 112;refine(ak kk (by omega) _ hTr.out).mono ?_;rintro e w' ⟨rfl,cc,rfl⟩)
    go_roundw
    case rel=>exact ⟨m+1,by omega,by rw[HS.out,HZ.out],HN.out,hB.alloc (by have:=hB.size;omega) _⟩
    case measure=>simp [intOf];omega
   |true=>
    go_wp2_with fail
    go_ret
    refine⟨?_,hB⟩
    rw[qx c hlt (by rw[HP.out];simpa using h20)];rfl
  ·have e:m=N:=(by omega);subst e;rw[hN];go_wp2;go_ret
   exact⟨by rw[hno];rfl,hB⟩
theorem Tryz.qz:(Tryz.prog.info? 4).map (fun i=>(i.zero,i.size,i.bytes))=some (some (.bool false),1,1):=by kernel_rfl
theorem Tryz.gw:(Tryz.prog.info? 3).map (fun i=>(i.zero,i.size,i.bytes))=some (some (.int .i64 0),1,8):=by kernel_rfl
theorem made (w:World)(t e:TypeId)(z:Value)(bytes n:Nat)(ht:Tryz.prog.underlying t=some (.slice e))(hinfo:(Tryz.prog.info? e).map (fun i=>(i.zero,i.size,i.bytes))=some (some z,1,bytes))(hz:z.cells=#[z])(hn:n≤1000)(hb:bytes≤8):
  ∃w1,(Instr.makeSlice t (.int .i64 (n:Int)) (.int .i64 (n:Int))).run Tryz.prog w=.ok (.slice (some ⟨w.heap.size,0,none⟩) n n) w1∧w1.heap[w.heap.size]?=some (.cells (List.replicate n z).toArray e (0,0))∧Below w.heap.size w w1:=by
 obtain⟨i,hi,hz0,hz1,hz2⟩:=info_parts hinfo
 obtain⟨w1,hr,ho,hg⟩:=run_make_full (P:=Tryz.prog) w w.heap.size t e i z 1 ht hi hz0 hz1 .i64 .i64 n (by rw[hz2];have:bytes*n≤8*1000:=Nat.mul_le_mul hb hn;omega) (by unfold maxLen;omega) (Nat.le_refl _)
 refine⟨w1,hr,?_,(Below.refl _ _).grown hg (Nat.le_refl _) (fun k hk=>by cases hk)⟩
 rcases ho.2 with⟨h,_⟩|⟨g,cap,cur,h,_,hh,_,_,hcs,htake⟩
 ·simp at h
 ·simp only[Value.slice.injEq,Option.some.injEq,Addr.mk.injEq,and_true,true_and]at h
  obtain⟨rfl,rfl⟩:=h
  rw[hh];rw[Nat.mul_one,hz,toList_madeCells_one,List.take_of_length_le (by rw[Array.length_toList];omega)]at htake;rw[←htake]
def bl (L:Nat)(f:Nat→Bool):List Value:=(List.range L).map fun i=>.bool (f i)
theorem iU (L:Nat)(f:Nat→Bool)(i:Nat)(hi:i<L):(bl L f)[i]?=some (.bool (f i)):=by simp[bl,List.getElem?_range hi]
theorem tV (L:Nat)(f:Nat→Bool):(bl L f).length=L:=by simp[bl]
theorem tX (L:Nat)(f g:Nat→Bool)(p:Nat)(b:Bool)(hg:∀i,i<L→g i=if i=p then b else f i):(bl L f).set p (.bool b)=bl L g:=by
 apply List.ext_getElem?;intro j;by_cases hj:j<L
 ·rw[List.getElem?_set,iU L g j hj,hg j hj];by_cases e:p=j
  ·subst e;rw[if_pos rfl,if_pos (by rw[tV];exact hj),if_pos rfl]
  ·rw[if_neg e,iU L f j hj,if_neg (fun c=>e c.symm)]
 ·rw[List.getElem?_eq_none (by simp[tV];omega),List.getElem?_eq_none (by rw[tV];omega)]
theorem tY (L:Nat):List.replicate L (Value.bool false)=bl L (fun _=>false):=by
 apply List.ext_getElem?;intro j;by_cases hj:j<L
 ·rw[iU L _ j hj,List.getElem?_replicate,if_pos hj]
 ·rw[List.getElem?_eq_none (by simp;omega),List.getElem?_eq_none (by rw[tV];omega)]
theorem gX {wr:World}{G:Nat}{l l':List Value}{e:TypeId}(h:wr.heap[G]?=some (.cells l.toArray e (0,0)))(p:Nat)(v:Value)(hl:l.set p v=l'):(wr.setCell ⟨G,p,none⟩ v).heap[G]?=some (.cells l'.toArray e (0,0)):=by
 rw[heap_setCell_same wr G p _ _ _ h,←hl]
 simp
def started (c:Nat→Int)(m i:Nat):Bool:=(List.range m).any fun t=>pos c t==i
theorem nC (c:Nat→Int)(m i:Nat):started c (m+1) i=if i=pos c m then true else started c m i:=by
 unfold started;rw[List.range_succ,List.any_append];by_cases e:i=pos c m
 ·subst e;simp
 ·rw[if_neg e]
  have:(pos c m==i)=false:=by rw[beq_eq_false_iff_ne];exact fun h=>e h.symm
  simp[this]
theorem yb (c:Nat→Int){m t:Nat}(ht:t<m):started c m (pos c t)=true:=by
 unfold started;rw[List.any_eq_true]
 exact⟨t,List.mem_range.2 ht,by simp⟩
theorem qA (w:World)(cb co L cap N:Nat)(c:Nat→Int)(V:VP c L N)(C:Laid w cb co L cap c)(hT:bK w):
  Calls Tryz.prog 146 #[.slice (some ⟨cb,co,none⟩) L cap] w fun e w'=>e=.returned (.tuple #[.int .i64 0,.bool false])∧Below w.heap.size w w':=by
 have hfs:=dD;have hmost:=V.most
 obtain⟨w1,hmk,hh1,hB1⟩:=made w 155 4 (.bool false) 1 L Tryz.underlying155 Tryz.qz rfl (by omega) (by omega)
 rw[tY]at hh1;have HH1:=hid hh1;clear hh1;go_in;go_wp2;clear hmk;go_loopw [5] (fun i wr=>∃m:Nat,m≤N∧i=.int .i64 (pos c m)∧wr.heap[w.heap.size]?=some (.cells (bl L (started c m)).toArray 4 (0,0))∧Below w.heap.size w wr) (fun i _=>L-(intOf i).toNat)
 case atStart=>exact ⟨0,by omega,rfl,HH1.out,hB1⟩
 case round=>
  obtain⟨m,hm,rfl,hh,hB⟩:=hrel
  by_cases hlt:m<N
  ·obtain⟨kk,A,hsucc⟩:=V.at hlt
   have hck:=C.at hB A.lt;rw[A.op]at hck;have h1:=A.lt;have h2:=A.fits;have h3:=A.sz;have h4:=A.s1;have h5:=A.s2;have h6:=A.pos;have h7:=A.most;have hk:=A.k;have HS:=hid hsucc;have HZ:=hid h3;have hi1:(pos c m:Int)<(L:Int):=(by omega);have c1:wr.cell? ⟨w.heap.size,pos c m,none⟩=some (.bool (started c m (pos c m))):=by
    rw[cell_of_row wr w.heap.size _ _ _ _ hh,List.getElem?_toArray];exact iU L _ _ h1
   have f1:=frozen_of_row wr w.heap.size (pos c m) _ _ hh;have HR:Hid ((wr.setCell ⟨w.heap.size,pos c m,none⟩ (.bool true)).heap[w.heap.size]?=some (.cells (bl L (started c (m+1))).toArray 4 (0,0))):=gX hh _ _ (tX L _ _ _ _ (fun i _=>nC c m i));have hB2:=hB.setCell (p:=⟨w.heap.size,pos c m,none⟩) (Nat.le_refl _) (.bool true);have hTr:=hid (hT.below hB2);have hcb:=C.blk;have hne:¬w.heap.size=cb:=(by omega);have hck2:(wr.setCell ⟨w.heap.size,pos c m,none⟩ (.bool true)).cell? ⟨cb,co+pos c m,none⟩=some (.int .u8 (kk:Int)):=by
    rw[World.cell?_setCell_other _ _ _ _ (fun c=>by injection c with c1 _ _;omega)];exact hck
   have hsz:=hB.size;have hlt2:w.heap.size<wr.heap.size:=by have:=(Array.getElem?_eq_some_iff.1 hh).1;exact this
   clear hsucc h3 A hh;go_wp2_with(go_at_call 112;refine(ak kk (by omega) _ hTr.out).mono ?_;rintro e w' ⟨rfl,cc2,rfl⟩)
   go_roundw
   case rel=>exact ⟨m+1,by omega,by rw[HS.out,HZ.out],by rw[Below.heap_alloc _ _ _ (by simpa using hlt2)];exact HR.out,hB2.alloc (by simp;omega) _⟩
   case measure=>simp [intOf];omega
  ·have e:m=N:=(by omega);subst e;rw[V.last];clear HH1;go_wp2;go_loopw [6] (fun i wx=>∃t:Nat,t≤m∧i=.int .i64 (pos c t)∧wx.heap[w.heap.size]?=some (.cells (bl L (started c m)).toArray 4 (0,0))∧Below w.heap.size w wx) (fun i _=>L-(intOf i).toNat)
   case atStart=>exact ⟨0,by omega,rfl,hh,hB⟩
   case round=>
    clear hh hB
    obtain⟨t,ht,rfl,hh,hB⟩:=hrel
    by_cases hlt:t<m
    ·obtain⟨kk,A,hsucc⟩:=V.at hlt
     have hck:=C.at hB A.lt;rw[A.op]at hck;have h1:=A.lt;have h2:=A.fits;have h3:=A.sz;have h4:=A.s1;have h5:=A.s2;have h6:=A.pos;have h7:=A.most;have hk:=A.k;have hop:=A.op;have HS:=hid hsucc;have HZ:=hid h3;have hi1:(pos c t:Int)<(L:Int):=(by omega);have hTr:=hid (hT.below hB)
     cases hlb:aW (kk:Int)with
     |false=>
      clear hsucc h3 A hop;go_wp2_with(first|(go_at_call 113;refine(bV _ _).mono ?_;rintro e w' ⟨rfl,rfl⟩)|(go_at_call 112;refine(ak kk (by omega) _ hTr.out).mono ?_;rintro e w' ⟨rfl,cc2,rfl⟩))
      go_roundw
      case rel=>exact ⟨t+1,by omega,by rw[HS.out,HZ.out],by rw[Below.heap_alloc _ _ _ ((Array.getElem?_eq_some_iff.1 hh).1)];exact hh,hB.alloc (by have:=hB.size;omega) _⟩
      case measure=>simp [intOf];omega
     |true=>
      obtain⟨s,hs,hst⟩:=V.jump t hlt (by rw[hop];exact hlb)
      have hsz2:bp kk=2:=by
       unfold aW at hlb
       have:kk=14∨kk=15:=by simp at hlb;omega
       rcases this with e|e<;>rw [e]<;>rfl
      have hck2:=C.at hB (p:=pos c t+1) (by omega);rw[←hst]at hck2;have hsL:=V.lt hs;have ct:wr.cell? ⟨w.heap.size,pos c s,none⟩=some (.bool true):=by
       rw[cell_of_row wr w.heap.size _ _ _ _ hh,List.getElem?_toArray,iU L _ _ hsL,yb c hs]
      have hdec:decide ((L:Int)≤(pos c s:Int))=false:=(by simpa using hsL);have hi2:(pos c s:Int)<(L:Int):=(by omega);have hi3:(pos c t:Int)+1<(L:Int):=(by omega);have hi4:(pos c s:Int)≤255:=(by omega);have hi5:¬(L:Int)≤(pos c s:Int):=(by omega);have HST:=hid hst;clear hsucc h3 A hop hst hsz2;go_wp2_with(first|(go_at_call 113;refine(bV _ _).mono ?_;rintro e w' ⟨rfl,rfl⟩)|(go_at_call 112;refine(ak kk (by omega) _ hTr.out).mono ?_;rintro e w' ⟨rfl,cc2,rfl⟩))
      go_roundw
      case rel=>exact ⟨t+1,by omega,by rw[HS.out,HZ.out],by rw[Below.heap_alloc _ _ _ ((Array.getElem?_eq_some_iff.1 hh).1)];exact hh,hB.alloc (by have:=hB.size;omega) _⟩
      case measure=>simp [intOf];omega
    ·have e:t=m:=(by omega);subst e;rw[V.last];go_wp2;go_ret2
     exact⟨rfl,hB⟩
def iE (c:Nat→Int)(N m:Nat):Bool:=aW (c (pos c m))&& !started c N (c (pos c m+1)).toNat
theorem qB (c:Nat→Int){m i:Nat}(h:started c m i=true):∃t,t<m∧pos c t=i:=by
 unfold started at h;rw[List.any_eq_true]at h
 obtain⟨t,ht,e⟩:=h
 exact⟨t,List.mem_range.1 ht,by simpa using e⟩
theorem vE {c:Nat→Int}{L N z:Nat}(S:SP c L N z){i:Nat}(h:L≤i):started c N i=false:=by
 cases e:started c N i with
 |false=>rfl
 |true=>obtain ⟨t,ht,e2⟩:=qB c e;have:=S.lt ht;omega
def WT (c:Nat→Int)(N:Nat)(r:Nat)(b:Bool):Prop:=
 (b=false∧r=0∧∀m,m<N→iE c N m=false)∨(b=true∧∃t,t<N∧r=pos c t∧iE c N t=true∧∀m,m<t→iE c N m=false)
theorem pT (w:World)(cb co L cap N z:Nat)(c:Nat→Int)(V:SP c L N z)(hN:pos c N=L)(C:Laid w cb co L cap c)(hT:bK w):
  Calls Tryz.prog 146 #[.slice (some ⟨cb,co,none⟩) L cap] w fun e w'=>∃r b,WT c N r b∧e=.returned (.tuple #[.int .i64 (r:Nat),.bool b])∧Below w.heap.size w w':=by
 have hfs:=dD;have hmost:=V.most
 obtain⟨w1,hmk,hh1,hB1⟩:=made w 155 4 (.bool false) 1 L Tryz.underlying155 Tryz.qz rfl (by omega) (by omega)
 rw[tY]at hh1;have HH1:=hid hh1;clear hh1;go_in;go_wp2;clear hmk;go_loopw [5] (fun i wr=>∃m:Nat,m≤N∧i=.int .i64 (pos c m)∧wr.heap[w.heap.size]?=some (.cells (bl L (started c m)).toArray 4 (0,0))∧Below w.heap.size w wr) (fun i _=>L-(intOf i).toNat)
 case atStart=>exact ⟨0,by omega,rfl,HH1.out,hB1⟩
 case round=>
  obtain⟨m,hm,rfl,hh,hB⟩:=hrel
  by_cases hlt:m<N
  ·obtain⟨kk,A,hsucc⟩:=V.at hlt
   have hck:=C.at hB A.lt;rw[A.op]at hck;have h1:=A.lt;have h2:=A.fits;have h3:=A.sz;have h4:=A.s1;have h5:=A.s2;have h6:=A.pos;have h7:=A.most;have hk:=A.k;have HS:=hid hsucc;have HZ:=hid h3;have hi1:(pos c m:Int)<(L:Int):=(by omega);have c1:wr.cell? ⟨w.heap.size,pos c m,none⟩=some (.bool (started c m (pos c m))):=by
    rw[cell_of_row wr w.heap.size _ _ _ _ hh,List.getElem?_toArray];exact iU L _ _ h1
   have f1:=frozen_of_row wr w.heap.size (pos c m) _ _ hh;have HR:Hid ((wr.setCell ⟨w.heap.size,pos c m,none⟩ (.bool true)).heap[w.heap.size]?=some (.cells (bl L (started c (m+1))).toArray 4 (0,0))):=gX hh _ _ (tX L _ _ _ _ (fun i _=>nC c m i));have hB2:=hB.setCell (p:=⟨w.heap.size,pos c m,none⟩) (Nat.le_refl _) (.bool true);have hTr:=hid (hT.below hB2);have hcb:=C.blk;have hne:¬w.heap.size=cb:=(by omega);have hck2:(wr.setCell ⟨w.heap.size,pos c m,none⟩ (.bool true)).cell? ⟨cb,co+pos c m,none⟩=some (.int .u8 (kk:Int)):=by
    rw[World.cell?_setCell_other _ _ _ _ (fun c=>by injection c with c1 _ _;omega)];exact hck
   have hsz:=hB.size;have hlt2:w.heap.size<wr.heap.size:=by have:=(Array.getElem?_eq_some_iff.1 hh).1;exact this
   clear hsucc h3 A hh;go_wp2_with(go_at_call 112;refine(ak kk (by omega) _ hTr.out).mono ?_;rintro e w' ⟨rfl,cc2,rfl⟩)
   go_roundw
   case rel=>exact ⟨m+1,by omega,by rw[HS.out,HZ.out],by rw[Below.heap_alloc _ _ _ (by simpa using hlt2)];exact HR.out,hB2.alloc (by simp;omega) _⟩
   case measure=>simp [intOf];omega
  ·have e:m=N:=(by omega);subst e;rw[hN];clear HH1;go_wp2;go_loopw [6] (fun i wx=>∃t:Nat,t≤m∧i=.int .i64 (pos c t)∧(∀s,s<t→iE c m s=false)∧wx.heap[w.heap.size]?=some (.cells (bl L (started c m)).toArray 4 (0,0))∧Below w.heap.size w wx) (fun i _=>L-(intOf i).toNat)
   case atStart=>exact ⟨0,by omega,rfl,fun _ h=>by omega,hh,hB⟩
   case round=>
    clear hh hB
    obtain⟨t,ht,rfl,hgood,hh,hB⟩:=hrel
    by_cases hlt:t<m
    ·obtain⟨kk,A,hsucc⟩:=V.at hlt
     have hck:=C.at hB A.lt;rw[A.op]at hck;have h1:=A.lt;have h2:=A.fits;have h3:=A.sz;have h4:=A.s1;have h5:=A.s2;have h6:=A.pos;have h7:=A.most;have hk:=A.k;have hop:=A.op;have HG:=hid hgood;have HS:=hid hsucc;have HZ:=hid h3;have hi1:(pos c t:Int)<(L:Int):=(by omega);have hTr:=hid (hT.below hB);have HN:iE c m t=false→∀s,s<t+1→iE c m s=false:=fun hb s hs=>by
      by_cases e:s=t
      ·subst e;exact hb
      ·exact HG.out s (by omega)
     clear hgood
     cases hlb:aW (kk:Int)with
     |false=>
      have HN2:Hid (∀s,s<t+1→iE c m s=false):=HN (by unfold iE;rw[hop,hlb];rfl);clear hsucc h3 A hop HN;go_wp2_with(first|(go_at_call 113;refine(bV _ _).mono ?_;rintro e w' ⟨rfl,rfl⟩)|(go_at_call 112;refine(ak kk (by omega) _ hTr.out).mono ?_;rintro e w' ⟨rfl,cc2,rfl⟩))
      go_roundw
      case rel=>exact ⟨t+1,by omega,by rw[HS.out,HZ.out],HN2.out,by rw[Below.heap_alloc _ _ _ ((Array.getElem?_eq_some_iff.1 hh).1)];exact hh,hB.alloc (by have:=hB.size;omega) _⟩
      case measure=>simp [intOf];omega
     |true=>
      have hsz2:=(fC hlb).1;have hby:=V.byte (pos c t+1) (by omega)
      obtain⟨X,hX⟩:∃X:Nat,c (pos c t+1)=(X:Int):=⟨(c (pos c t+1)).toNat,by omega⟩
      have hck2:=C.at hB (p:=pos c t+1) (by omega);rw[hX]at hck2;have hbad:iE c m t= !started c m X:=by unfold iE;rw[hop,hlb,hX];rfl
      have hi3:(pos c t:Int)+1<(L:Int):=(by omega);have hi4:(X:Int)≤255:=(by omega);have HBD:=hid hbad;by_cases hXL:X<L
      ·have ct:wr.cell? ⟨w.heap.size,X,none⟩=some (.bool (started c m X)):=by
        rw[cell_of_row wr w.heap.size _ _ _ _ hh,List.getElem?_toArray,iU L _ _ hXL]
       have hdec:decide ((L:Int)≤(X:Int))=false:=(by simpa using hXL);have hi2:(X:Int)<(L:Int):=(by omega);have hi5:¬(L:Int)≤(X:Int):=by omega
       cases hst:started c m X with
       |true=>
        rw[hst]at ct hbad;have HN2:=hid (HN hbad);clear hsucc h3 A hop hsz2 hX hbad HN hby
        go_wp2_with(first|(go_at_call 113;refine(bV _ _).mono ?_;rintro e w' ⟨rfl,rfl⟩)|(go_at_call 112;refine(ak kk (by omega) _ hTr.out).mono ?_;rintro e w' ⟨rfl,cc2,rfl⟩))
        go_roundw
        case rel=>exact ⟨t+1,by omega,by rw[HS.out,HZ.out],HN2.out,by rw[Below.heap_alloc _ _ _ ((Array.getElem?_eq_some_iff.1 hh).1)];exact hh,hB.alloc (by have:=hB.size;omega) _⟩
        case measure=>simp [intOf];omega
       |false=>
        rw[hst]at ct hbad;have HBD2:=hid hbad;clear hsucc h3 A hop hsz2 hX hbad HN hby
        go_wp2_with(first|(go_at_call 113;refine(bV _ _).mono ?_;rintro e w' ⟨rfl,rfl⟩))
        go_ret2
        exact⟨pos c t,true,Or.inr ⟨rfl,t,hlt,rfl,HBD2.out,HG.out⟩,rfl,hB⟩
      ·have hst:=vE V (i:=X) (by omega);rw[hst]at hbad;have HBD2:=hid hbad;have hdec:decide ((L:Int)≤(X:Int))=true:=by simp;omega
       have hi5:(L:Int)≤(X:Int):=(by omega);clear hsucc h3 A hop hsz2 hX hbad HN hby
       go_wp2_with(first|(go_at_call 113;refine(bV _ _).mono ?_;rintro e w' ⟨rfl,rfl⟩))
       go_ret2
       exact⟨pos c t,true,Or.inr ⟨rfl,t,hlt,rfl,HBD2.out,HG.out⟩,rfl,hB⟩
    ·have e:t=m:=(by omega);subst e;rw[hN];go_wp2;go_ret2
     exact⟨0,false,Or.inl ⟨rfl,rfl,hgood⟩,rfl,hB⟩
end Go.Proofs.YtmpgjkhchfcjlaaGreatDoor
