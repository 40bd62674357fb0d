import Derived.Test.YtmpgjkhchfcjlaaGreatDoorM32
namespace Go.Proofs.YtmpgjkhchfcjlaaGreatDoor
open Go.RowKit
set_option maxRecDepth 100000
set_option maxHeartbeats 2000000
def hcells (v:Value)(aa fuel:Int):Array Value:=#[v,.int .i64 fuel,.int .u64 aa,.int .i64 0,.int .i64 0,.int .i64 0,.int .i64 0,.slice none 0 0,.slice none 0 0,.slice none 0 0,.bool false,.bool false,.bool false,.bool false,.bool false,.bool false,.bool false,.bool false,.bool false,.bool false,.bool false,.bool false,.bool false,.bool false,.bool false,.bool false,.bool false,.bool false,.bool false,.bool false,.bool false,.bool false,.bool false,.bool false,.bool false,.bool false,.bool false,.bool false,.bool false,.bool false]
theorem K7 (w:World):(Instr.alloc 136 true (.tuple #[])).run Tryz.prog w=.ok (.pointer (some ⟨w.heap.size,0,none⟩)) (w.alloc (.cells (hcells (.slice none 0 0) 0 0) 136)):=by kernel_rfl
theorem K8 (b L cap:Nat)(aa fuel:Int)(w:World):(Instr.build 136 #[(0,.slice (some ⟨b,0,none⟩) L cap),(2,.int .u64 aa),(1,.int .i64 fuel)]).run Tryz.prog w=.ok (.agg (hcells (.slice (some ⟨b,0,none⟩) L cap) aa fuel)) w:=by kernel_rfl
theorem EW (b L cap:Nat)(aa fuel:Int)(w:World):(Instr.build 139 #[(0,.agg (hcells (.slice (some ⟨b,0,none⟩) L cap) aa fuel))]).run Tryz.prog w=.ok (.agg (hcells (.slice (some ⟨b,0,none⟩) L cap) aa fuel)) w:=by kernel_rfl
theorem KY (v:Value)(aa fuel:Int):(Tryz.prog.info? 136).map (·.size)=some (hcells v aa fuel).size:=by kernel_rfl
section
variable {P:Program} {w:World} {ops:Array Oper} {rest:List Oper} {o:Oper} {a:Act} {Q:Exit→Act→World→Prop}
theorem sg (hgd:o.guard=none)(t:TypeId)(i j k:Nat)(x y z:Operand)(ho:o.op=.build t #[(i,x),(j,y),(k,z)])(u v s:Value)(hx:a.eval x=u)(hy:a.eval y=v)(hz:a.eval z=s)(cs:Array Value)(hrun:∀w,(Instr.build t #[(i,u),(j,v),(k,s)]).run P w=.ok (.agg cs) w)
  (h:wpList P ops Q rest (a.put o.dst (.agg cs)) w):wpList P ops Q (o::rest) a w:=by
 refine wpList_plain hgd fun K hK=> ?_
 unfold Oper.wp execOp;simp only[ho,List.map_toArray,List.map_cons,List.map_nil,hx,hy,hz,hrun,Sem.run_bind,Sem.run_pure,Result.andThen_ok];exact hK _ _ h
end
theorem zy (v:Value)(hv:v.oneCell'=true)(aa fuel:Int):∀u∈(hcells v aa fuel).toList,u.oneCell'=true:=by
 intro u hu;simp only[hcells,List.mem_cons,List.not_mem_nil,or_false]at hu;rcases hu with rfl|hu
 ·exact hv
 ·rcases hu with rfl|rfl|rfl|rfl|rfl|rfl|rfl|rfl|rfl|hu<;>first|rfl|(repeat' (rcases hu with rfl|hu))<;>first|rfl|(subst hu;rfl)
theorem K9 (w:World)(B:Nat)(v v':Value)(hv:v'.oneCell'=true)(aa fuel:Int)(e:w.heap[B]?=some (.cells (hcells v 0 0) 136 (0,0))):∃W1,Sem.run Tryz.prog (storeCells ⟨B,0,none⟩ (hcells v' aa fuel).toList) w=.ok () W1∧W1.heap[B]?=some (.cells (hcells v' aa fuel) 136 (0,0))∧Below B w W1∧W1.heap.size=w.heap.size∧∀k,k≠B→W1.heap[k]?=w.heap[k]?:=by
 have hr:=run_storeCells_at Tryz.prog B 0 136 (hcells v' aa fuel).toList 0 _ _ e (by simp[hcells]) (zy v' hv aa fuel);have e3:((hcells v 0 0).toList.take (0+0)++(hcells v' aa fuel).toList++(hcells v 0 0).toList.drop (0+0+(hcells v' aa fuel).toList.length)).toArray=hcells v' aa fuel:=by simp[hcells]
 rw[e3]at hr
 exact⟨_,hr,setRow_heap _ _ _ _ _ _ e,⟨rfl,rfl,rfl,by simp,fun k hk=>setRow_other _ _ _ _ (by omega)⟩,by simp,fun k hk=>setRow_other _ _ _ _ hk⟩
theorem xh (w:World)(cb co L cap:Nat)(c:Nat→Int)(C:Laid w cb co L cap c)(hL:L≤80)(aa fuel:Int):
  Calls Tryz.prog 78 #[.slice (some ⟨cb,co,none⟩) L cap,.int .u64 aa,.int .i64 fuel] w fun e w'=>(∃b' cap',e=.returned (.agg (hcells (.slice (some ⟨b',0,none⟩) L cap') aa fuel))∧w.heap.size≤b'∧Laid w' b' 0 L cap' c)∧Below w.heap.size w w':=by
 have B0:Below w.heap.size w (w.alloc (.cells (hcells (.slice none 0 0) 0 0) 136)):=(Below.refl _ _).alloc (Nat.le_refl _) _;have hz0:(w.alloc (.cells (hcells (.slice none 0 0) 0 0) 136)).heap.size=w.heap.size+1:=by simp
 have C0:=C.below B0;have H1:Hid (Calls Tryz.prog 120 #[.slice (some ⟨cb,co,none⟩) L cap] (w.alloc (.cells (hcells (.slice none 0 0) 0 0) 136)) fun e w'=>∃v',e=.returned v'∧w'.ownsRow (w.alloc (.cells (hcells (.slice none 0 0) 0 0) 136)).heap.size 5 1 v' L (((List.range L).map c).map (Value.int .u8))∧v'≠.slice none 0 0∧Below (w.alloc (.cells (hcells (.slice none 0 0) 0 0) 136)).heap.size (w.alloc (.cells (hcells (.slice none 0 0) 0 0) 136)) w'):=
  Tryz.bytes_Clone_at ⟨cb,co,none⟩ L cap ((List.range L).map c) _ (by simp) (by omega) (fun i hi=>by
   rw[Addr.add_lit]
   have:=C0.cell i hi
   rw[this];simp[List.getD,hi])
 go_in;go_wp2_with(first|refine eR rfl 136 rfl (hcells (.slice none 0 0) 0 0) K7 ?_)
 refine H1.out.mono ?_;rintro e w1 ⟨v1,rfl,hr1,hne,B1⟩;rw[hz0]at hr1 B1;rcases aO hr1 with⟨rfl,_⟩|⟨b',cap',rfl,hb1,hcap,hnc,hc1⟩
 ·exact absurd rfl hne
 obtain⟨W1,hst,hbk,BW,hsW,hoth⟩:=K9 w1 w.heap.size (.slice none 0 0) (.slice (some ⟨b',0,none⟩) L cap') rfl aa fuel ((B1.block _ (by omega)).trans (heap_alloc_new w _))
 have HLD:Hid (Laid w1 b' 0 L cap' c):=⟨fun i hi=>by rw[Nat.zero_add];exact hc1 i _ (by simp[hi]),hnc,by unfold maxLen at hcap;omega,C.ny⟩;have HB1:=hid (B0.trans (B1.mono (by omega)));have hb':w.heap.size<b':=by
  rcases hr1.2 with⟨h0,_⟩|⟨g0,_,_,h0,hg0,_⟩
  ·cases h0
  ·injection h0 with h0;injection h0 with h0;injection h0 with h0;omega
 clear hr1 hne hc1 B1 H1 C C0 B0;go_wp2_with(first|refine sg rfl 136 0 2 1 _ _ _ rfl (.slice (some ⟨b',0,none⟩) L cap') (.int .u64 aa) (.int .i64 fuel) rfl rfl rfl (hcells (.slice (some ⟨b',0,none⟩) L cap') aa fuel) (K8 b' L cap' aa fuel) ?_)
 refine bodyPost_ret (results_cell_row (P:=Tryz.prog) rfl _ W1 w.heap.size 136 (hcells (.slice (some ⟨b',0,none⟩) L cap') aa fuel) (0,0) _ rfl hbk Tryz.underlying136 rfl (KY _ _ _)) rfl ⟨⟨b',cap',rfl,by omega,HLD.out.of_block (hoth b' (by omega))⟩,HB1.out.trans BW⟩
structure SL (w:World) (v:Value) (l:List ByteArray):Prop where
 form:(v=.slice none 0 0∧l=[])∨∃b cap,v=.slice (some ⟨b,0,none⟩) l.length cap∧b<w.heap.size∧l.length≤9223372036854775807∧∀j,j<l.length→w.cell? ⟨b,j,none⟩=some (.string (l.getD j ⟨#[]⟩))
theorem SL.below {w w':World}{v:Value}{l:List ByteArray}(h:SL w v l)(b:Below w.heap.size w w'):SL w' v l:=by
 refine⟨?_⟩
 rcases h.form with c|⟨b',cap,h1,h2,h3,h4⟩
 ·exact Or.inl c
 ·exact Or.inr ⟨b',cap,h1,Nat.lt_of_lt_of_le h2 b.size,h3,fun j hj=>(b.cell (p:=⟨b',j,none⟩) h2).trans (h4 j hj)⟩
theorem si (w:World)(l:List ByteArray)(hl:∀s∈l,s.size≤9223372036854775807):jb 76 #[] l.length (fun j=>.string (l.getD j ⟨#[]⟩)) (fun j=>decide (24<(l.getD j ⟨#[]⟩).size)) w:=by
 intro W j hj hW;have hs:(l.getD j ⟨#[]⟩).size≤9223372036854775807:=by
  rw[List.getD_eq_getElem?_getD,List.getElem?_eq_getElem hj,Option.getD_some];exact hl _ (List.getElem_mem hj)
 dsimp only;generalize l.getD j ⟨#[]⟩=s at hs⊢;have HB:=hid hW;clear hW;have e:decide ((24:Int)<(s.size:Int))=decide (24<s.size):=by
  by_cases h:24<s.size
  ·rw[decide_eq_true h,decide_eq_true (by omega)]
  ·rw[decide_eq_false h,decide_eq_false (by omega)]
 go_in;go_wp2;go_ret
 exact⟨by rw[←e];rfl,HB.out⟩
theorem ru:∀args w,(callFunc 76 args).run Tryz.prog w=.ok (.enter 76 args) w:=enters_of Tryz.func76 (by kernel_rfl) rfl
theorem AJ (w:World)(v:Value)(l:List ByteArray)(S:SL w v l)(hl:∀s∈l,s.size≤9223372036854775807):
  Calls Tryz.prog 75 #[v,.func (.func 76) #[] #[]] w fun e w'=>e=.returned (.bool (l.any fun s=>decide (24<s.size)))∧Below w.heap.size w w':=by
 rcases S.form with⟨rfl,rfl⟩|⟨b,cap,rfl,hb,hn,hc⟩
 ·exact(yQ _ _ _ _).mono fun e w' ⟨x,y⟩=>⟨x,by rw[y];exact Below.refl _ _⟩
 ·have:=Ck 76 #[] ru b l.length cap _ _ w (si w l hl) hn hb hc
  rw[lW l ⟨#[]⟩ (fun s=>decide (24<s.size))]at this;exact this
theorem uJ (s:ByteArray)(hs:s.size≤281474976710656)(w:World):Calls Tryz.prog 80 #[.string s] w fun e w'=>e=.returned (.string s)∧Below w.heap.size w w':=by
 go_in;go_wp2_with fail
 refine(Tryz.stringslite_Clone s w hs).mono ?_
 rintro e w1 ⟨rfl,B1⟩;go_wp2_with fail
 go_ret
 exact⟨rfl,B1⟩
theorem EX {w w1:World}{g:PG}(ok:oM g)(b' cap':Nat)(aa:Int)(h0:0≤aa)(h1:aa≤18446744073709551615)(B:Below w.heap.size w w1)(hb:w.heap.size≤b')(C:Laid w1 b' 0 g.L cap' g.c)(hT:bK w)(hM:kT w)(h3:3≤w.heap.size):
  HG (w1.alloc (.cells (hcells (.slice (some ⟨b',0,none⟩) g.L cap') aa g.fuel) 139)) (fun k=>w.heap.size≤k∧k<w1.heap.size+1) ⟨w1.heap.size,b',cap',.slice none 0 0,.slice none 0 0,.slice none 0 0,[]⟩ g (HS.zero aa):=by
 have hbk:(w1.alloc (.cells (hcells (.slice (some ⟨b',0,none⟩) g.L cap') aa g.fuel) 139)).heap[w1.heap.size]?=some (.cells (hcells (.slice (some ⟨b',0,none⟩) g.L cap') aa g.fuel) 139 (0,0)):=heap_alloc_new _ _;have Ba:Below w1.heap.size w1 (w1.alloc (.cells (hcells (.slice (some ⟨b',0,none⟩) g.L cap') aa g.fuel) 139)):=(Below.refl _ _).alloc (Nat.le_refl _) _;have hbl:=C.blk;have hsz:=B.size;have B2:=B.trans (Ba.mono hsz)
 refine⟨?_,ok,lS _ _,oG aa h0 h1,hT.below B2,hM.below B2 hM.two⟩
 exact{
  cell:=fun j hj=>by
   rw[cell_of_row _ _ _ _ _ _ hbk];match j,hj with
   |0,_|1,_|2,_|3,_|4,_|5,_|6,_|7,_|8,_|9,_|10,_|11,_|12,_|13,_|14,_|15,_|16,_|17,_|18,_|19,_|20,_|21,_|22,_|23,_|24,_|25,_|26,_|27,_|28,_|29,_|30,_|31,_|32,_|33,_|34,_|35,_|36,_|37,_|38,_|39,_=>rfl
   |j+40,h=>omega
  thaw:=fun j=>frozen_of_row _ _ _ _ _ hbk
  rk:=World.ownsRow_nil _ _ _ _
  rf:=World.ownsRow_nil _ _ _ _
  rc:=World.ownsRow_nil _ _ _ _
  nk:=fun b e=>by cases e
  nf:=fun b e=>by cases e
  nc:=fun b e=>by cases e
  code:=C.below Ba
  dX:=fun c=>by
   rcases c with c|c|c|c
   ·have:b'=w1.heap.size:=c
    omega
   ·cases c
   ·cases c
   ·cases c
  kept:=fun i k hk=>by simp[HS.zero]at hk
  dR:=fun k hk=>by
   rcases hk with c|c|c|c
   ·have:k=w1.heap.size:=c
    omega
   ·cases c
   ·cases c
   ·cases c
  kW:=⟨hb,by show b'<w1.heap.size+1;omega⟩
  lt:=fun k hk=>by simp;omega
  low:=fun k hk=>by omega}
theorem kJ.sz {h:HS}(p:kJ h)(ht:h.tries≤1000000):AE h:=⟨by omega,by have:=p.hangs;omega,by have:=p.kept;omega,by have:=p.found;omega,by have:=p.az;omega⟩
theorem iK (w:World)(fuel:Int):Calls Tryz.prog 77 #[.int .i64 fuel] w fun e w'=>e=.returned (.bool (decide (1≤fuel)&&decide (fuel≤500)))∧w'=w:=by
 by_cases h1:1≤fuel
 ·by_cases h2:fuel≤500
  ·rw[decide_eq_true h1,decide_eq_true h2];go_in;go_wp2;go_ret
   exact⟨rfl,rfl⟩
  ·rw[decide_eq_true h1,decide_eq_false h2];go_in;go_wp2;go_ret
   exact⟨rfl,rfl⟩
 ·rw[decide_eq_false h1];go_in;go_wp2;go_ret
  exact⟨rfl,rfl⟩
structure Made (w:World) (g:PG) (h:HS) (H:Nat) (w':World):Prop where
 ge:w.heap.size≤H
 dY:Below w.heap.size w w'
 hg:∃U d,d.H=H∧HG w' U d g h∧∀k,U k→w.heap.size≤k
theorem Made.tried {w wr:World}{g:PG}{h:HS}{H:Nat}(m:Made w g h H wr)(hz:AE h)(s:ByteArray)(hs:s.size≤24)(W:World)(b:Below wr.heap.size wr W):Calls Tryz.prog 79 #[.pointer (some ⟨H,0,none⟩),.string s] W fun e w'=>(∃l,e=.returned (.int .u8 l))∧Made w g (aD g.R h s).1 H w':=by
 obtain⟨U,d,rfl,G,hU⟩:=m.hg
 have G':=G.below b
 refine(uG G'.hu G'.ok G'.tab (iJ g.mC G'.inv) hz s hs).mono ?_
 rintro e w' ⟨rfl,t⟩;have q:=t.ht G'
 obtain⟨d',hd',p'⟩:=t.hu
 have hbs:=b.size;have hge:∀k,Gr (Gr U wr W) W w' k→w.heap.size≤k:=fun k hk=>by
  have hms:=m.dY.size;rcases hk with(c|c)|c
  ·exact hU k c
  ·omega
  ·omega
 refine⟨⟨_,rfl⟩,m.ge,?_,_,d',hd',⟨p',G.ok,G.inv.tried g.mC s hs,G.pos.tried s,q.tab,q.pI⟩,hge⟩
 have f:=t.fr;have b1:=m.dY.trans (b.mono m.dY.size)
 refine⟨f.os.trans b1.os,f.tape.trans b1.tape,f.output.trans b1.output,Nat.le_trans b1.size f.size,fun k hk=>(f.block k (Nat.lt_of_lt_of_le hk b1.size) (fun c=> ?_)).trans (b1.block k hk)⟩
 rcases c with c|c
 ·have:=hU k c;omega
 ·have:=m.dY.size;omega
theorem EY (w:World)(cb co cap:Nat)(g:PG)(ok:oM g)(C:Laid w cb co g.L cap g.c)(v:Value)(l:List ByteArray)(S:SL w v l)(hl8:l.length≤8)(hl:∀s∈l,s.size≤24)(aa:Int)(s0:0≤aa)(s1:aa≤18446744073709551615)(hT:bK w)(hM:kT w)(h3:3≤w.heap.size):
  Calls Tryz.prog 37 #[.slice (some ⟨cb,co,none⟩) g.L cap,v,.int .u64 aa,.int .i64 g.fuel] w fun e w'=>∃H,e=.returned (.tuple #[.pointer (some ⟨H,0,none⟩),.int .i64 0])∧Made w g (bX g.R (HS.zero aa) l) H w':=by
 have H1:=hid (mP w cb co g.L cap g.N g.c ok.vp C hT);have H2:Hid (∀W,Below w.heap.size w W→Calls Tryz.prog 75 #[v,.func (.func 76) #[] #[]] W fun e w'=>e=.returned (.bool false)∧Below w.heap.size w w'):=fun W b=>by
  have:=AJ W v l (S.below b) (fun s hs=>by have:=hl s hs;omega)
  have hf:(l.any fun s=>decide (24<s.size))=false:=by
   rw[List.any_eq_false];intro s hs
   have:=hl s hs
   simp;omega
  rw[hf]at this;exact this.mono fun e w' ⟨x,y⟩=>⟨x,b.trans (y.mono b.size)⟩
 have hf0:=ok.wW;have hf1:=ok.fuel1;have H3:Hid (∀W,Calls Tryz.prog 77 #[.int .i64 g.fuel] W fun e w'=>e=.returned (.bool true)∧w'=W):=fun W=>by
  have:=iK W g.fuel
  rw[decide_eq_true hf0,decide_eq_true hf1]at this;exact this
 have H4:Hid (∀W,Below w.heap.size w W→Calls Tryz.prog 78 #[.slice (some ⟨cb,co,none⟩) g.L cap,.int .u64 aa,.int .i64 g.fuel] W fun e w'=>(∃b' cap',e=.returned (.agg (hcells (.slice (some ⟨b',0,none⟩) g.L cap') aa g.fuel))∧w.heap.size≤b'∧Laid w' b' 0 g.L cap' g.c)∧Below w.heap.size w w'):=fun W b=>
  (xh W cb co g.L cap g.c (C.below b) ok.vp.most aa g.fuel).mono fun e w' ⟨⟨b',c',x,y,z⟩,t⟩=>⟨⟨b',c',x,Nat.le_trans b.size y,z⟩,b.trans (t.mono b.size)⟩
 have H5:Hid (∀w1 b' cap',Below w.heap.size w w1→w.heap.size≤b'→Laid w1 b' 0 g.L cap' g.c→Made w g (HS.zero aa) w1.heap.size (w1.alloc (.cells (hcells (.slice (some ⟨b',0,none⟩) g.L cap') aa g.fuel) 139))):=fun w1 b' cap' b hb Cb=>
  ⟨b.size,b.trans ((Below.refl _ _).alloc b.size _),_,_,rfl,EX ok b' cap' aa s0 s1 b hb Cb hT hM h3,fun k hk=>hk.1⟩
 have HSL:Hid (∀W,Below w.heap.size w W→SL W v l):=fun W b=>S.below b
 have HL:=hid hl;have HCN:Hid (∀k,k≤l.length→AE (bX g.R (HS.zero aa) (l.take k))):=fun k hk=>by
  obtain⟨c1,c2⟩:=(tC aa).tries (R:=g.R) (l.take k)
  exact c1.sz (by rw[c2,List.length_take];show 0+_≤_;omega)
 have hvf:∃ao cp,v=.slice ao l.length cp:=by
  rcases S.form with⟨rfl,rfl⟩|⟨b,cp,rfl,_⟩
  ·exact⟨none,0,rfl⟩
  ·exact⟨_,cp,rfl⟩
 obtain⟨ao,cp,rfl⟩:=hvf
 clear S hl hT hM h3 ok C;generalize hn:l.length=n at*;generalize g.L=gL at*;generalize g.fuel=gf at*;go_in;go_wp2_with fail
 refine H1.out.mono ?_;rintro e w1 ⟨rfl,B1⟩;have HB1:=hid B1;clear B1;have hi8:¬(8:Int)<(n:Int):=by omega
 go_wp2_with fail
 refine(H2.out w1 HB1.out).mono ?_
 rintro e w2 ⟨rfl,B2⟩;have HB2:=hid B2;clear B2;go_wp2_with fail
 refine(H3.out w2).mono ?_
 rintro e w3 ⟨rfl,hw3⟩;obtain rfl:=hw3.symm;go_wp2_with fail
 refine(H4.out w2 HB2.out).mono ?_
 rintro e w4 ⟨⟨b4,c4,rfl,hb4,C4⟩,B4⟩;have HMD:Hid (Made w g (HS.zero aa) w4.heap.size (w4.alloc (.cells (hcells (.slice (some ⟨b4,0,none⟩) gL c4) aa gf) 139))):=H5.out w4 b4 c4 B4 hb4 C4;clear B4 hb4 C4 H1 H2 H3 H4 H5;go_wp2_with(first|refine iW rfl 139 0 _ rfl (.agg (hcells (.slice (some ⟨b4,0,none⟩) gL c4) aa gf)) rfl (hcells (.slice (some ⟨b4,0,none⟩) gL c4) aa gf) (EW b4 gL c4 aa gf) ?_)
 generalize hcells (.slice (some ⟨b4,0,none⟩) gL c4) aa gf=cs at*;have HST:Hid (∀k,k<n→bX g.R (HS.zero aa) (l.take (k+1))=(aD g.R (bX g.R (HS.zero aa) (l.take k)) (l.getD k ⟨#[]⟩)).1):=fun k hk=>rj _ _ _ _ (by omega)
 have HS24:Hid (∀k,k<n→(l.getD k ⟨#[]⟩).size≤24):=fun k hk=>by
  have hk':k<l.length:=by omega
  rw[List.getD_eq_getElem?_getD,List.getElem?_eq_getElem hk',Option.getD_some];exact HL.out _ (List.getElem_mem hk')
 have HSF:Hid (∀W k,k<n→Below w.heap.size w W→∃b,ao=some ⟨b,0,none⟩∧W.cell? ⟨b,k,none⟩=some (.string (l.getD k ⟨#[]⟩))):=fun W k hk b=>by
  rcases(HSL.out W b).form with⟨hv,_⟩|⟨b',cp',hv,_,_,hc⟩
  ·injection hv with _ h2 _;omega
  ·injection hv with h1 _ _
   exact⟨b',h1,hc k (by omega)⟩
 have HNN:Hid (l.length=n):=hn;clear hn;go_loopw [14,40] (fun _ i wr=>∃k:Nat,k≤n∧i=.int .i64 k∧Made w g (bX g.R (HS.zero aa) (l.take k)) w4.heap.size wr) (fun _ i _=>n-(intOf i).toNat)
 case atStart=>exact ⟨0,by omega,rfl,HMD.out⟩
 case round=>
  obtain⟨k,hkn,rfl,hMD⟩:=hrel
  by_cases hlt:k<n
  ·have hi1:(k:Int)<(n:Int):=by omega
   obtain⟨b,rfl,ck⟩:=HSF.out wr k hlt hMD.dY
   have hst:=HST.out k hlt;have h24:=HS24.out k hlt;have HTR:Hid (∀W,Below wr.heap.size wr W→Calls Tryz.prog 79 #[.pointer (some ⟨w4.heap.size,0,none⟩),.string (l.getD k ⟨#[]⟩)] W fun e w'=>(∃l,e=.returned (.int .u8 l))∧Made w g (bX g.R (HS.zero aa) (l.take (k+1))) w4.heap.size w'):=fun W b=>by
    rw[hst];exact hMD.tried (HCN.out k (by have:=HNN.out;omega)) _ h24 W b
   have HCL:Hid (Calls Tryz.prog 80 #[.string (l.getD k ⟨#[]⟩)] wr.drew fun e w'=>e=.returned (.string (l.getD k ⟨#[]⟩))∧Below wr.drew.heap.size wr.drew w'):=uJ _ (by omega) wr.drew
   obtain⟨hk1,hhk⟩:∃hk1,bX g.R (HS.zero aa) (l.take (k+1))=hk1:=⟨_,rfl⟩
   have HGK:Hid (bX g.R (HS.zero aa) (l.take (k+1))=hk1):=hhk;rw[hhk]at HTR;clear hhk;clear hMD hst h24;generalize l.getD k ⟨#[]⟩=sk at*;go_wp2_with fail
   go_region_with(first
    |(go_at_call 80;refine HCL.out.mono ?_;rintro e w5 ⟨rfl,B5⟩;have HB5:Hid (Below wr.heap.size wr w5):=⟨B5.os,B5.tape,B5.output,B5.size,B5.block⟩;clear B5)
    |(go_at_call 79;refine(HTR.out w5 HB5.out).mono ?_;rintro e w6 ⟨⟨l6,rfl⟩,m6⟩;have HM6:Hid (Made w g hk1 w4.heap.size w6):=m6;clear m6))
   go_wp2_with fail
   go_roundw
   case rel=>exact ⟨k+1,by omega,by go_num,by rw[HGK.out];exact HM6.out⟩
   case measure=>simp [intOf];omega
  ·have hi1:¬(k:Int)<(n:Int):=(by omega);have hk:k=n:=(by omega);have HMF:Hid (Made w g (bX g.R (HS.zero aa) l) w4.heap.size wr):=by
    have e:l.take k=l:=List.take_of_length_le (by have:=HNN.out;omega);rw[e]at hMD;exact hMD
   clear hMD hk;go_wp2_with fail
   go_ret2
   exact⟨_,rfl,HMF.out⟩
theorem kK (w:World)(H:Nat):Calls Tryz.prog 42 #[.pointer (some ⟨H,0,none⟩)] w fun e w'=>e=.returned (.pointer (some ⟨H,0,none⟩))∧w'=w:=by
 go_in;go_wp2;go_ret
 exact⟨rfl,rfl⟩
theorem CP {w:World}{U:Nat→Prop}{d:HD}{g:PG}{h:HS}(p:HU w U d g h):Calls Tryz.prog 43 #[.pointer (some ⟨d.H,0,none⟩)] w fun e w'=>e=.returned (.bool (decide (0<h.kept.length)))∧w'=w:=by
 obtain⟨G,K⟩:=p.I0
 have H1:=hid (iO w d.H d.vk G h.kept (p.cell 7 (by omega)) K);generalize h.kept.length=n at*;clear p K;have e:decide (0<n)=decide ((0:Int)<(n:Int)):=by
  by_cases h:0<n
  ·rw[decide_eq_true h,decide_eq_true (by omega)]
  ·rw[decide_eq_false h,decide_eq_false (by omega)]
 rw[e];clear e;go_in;go_wp2_with fail
 refine H1.out.mono ?_;rintro e w1 ⟨rfl,hw⟩;obtain rfl:=hw.symm;go_wp2_with fail
 go_ret
 exact⟨by simp,rfl⟩
noncomputable def HS.gone (g:PG)(h:HS)(n:Nat):HS:=if 0<h.kept.length then h.go g.R n else h
theorem I8 {w:World}{U:Nat→Prop}{d:HD}{g:PG}{h:HS}(p:HG w U d g h)(n:Nat)(h1:1≤n)(hn:n≤2000)(hz:0<h.kept.length→∀k,k≤n→AE (h.go g.R k)):
  Calls Tryz.prog 14 #[.pointer (some ⟨d.H,0,none⟩),.int .i64 (n:Nat)] w fun e w'=>e=.returned (.int .i64 (if 0<h.kept.length then 0 else 4))∧aA U d.H g (h.gone g n) w w':=by
 have hi1:¬(n:Int)<1:=by omega
 have hi2:¬(2000:Int)<(n:Int):=by omega
 have H0:Hid (∀W,Calls Tryz.prog 42 #[.pointer (some ⟨d.H,0,none⟩)] W fun e w'=>e=.returned (.pointer (some ⟨d.H,0,none⟩))∧w'=W):=fun W=>kK W d.H
 have H1:=hid (CP p.hu);unfold HS.gone;by_cases hk:0<h.kept.length
 ·rw[if_pos hk,if_pos hk];have H2:=hid (K0 p hk n hn (hz hk));rw[decide_eq_true hk]at H1;clear p hz hk;go_in;go_wp2_with fail
  refine(H0.out w).mono ?_
  rintro e w1 ⟨rfl,hw⟩;obtain rfl:=hw.symm;go_wp2_with fail
  refine H1.out.mono ?_;rintro e w1 ⟨rfl,hw⟩;obtain rfl:=hw.symm;go_wp2_with fail
  refine(H0.out w).mono ?_
  rintro e w1 ⟨rfl,hw⟩;obtain rfl:=hw.symm;go_wp2_with fail
  refine H2.out.mono ?_;rintro e w2 ⟨rfl,t2⟩;have HT2:=hid t2;clear t2;go_wp2_with fail
  go_ret
  exact⟨rfl,HT2.out⟩
 ·rw[if_neg hk,if_neg hk];rw[decide_eq_false hk]at H1;have HP:=hid p.hu;clear p hz hk;go_in;go_wp2_with fail
  refine(H0.out w).mono ?_
  rintro e w1 ⟨rfl,hw⟩;obtain rfl:=hw.symm;go_wp2_with fail
  refine H1.out.mono ?_;rintro e w1 ⟨rfl,hw⟩;obtain rfl:=hw.symm;go_wp2_with fail
  go_ret
  exact⟨rfl,aA.refl HP.out⟩
theorem xj {w:World}{U:Nat→Prop}{d:HD}{g:PG}{h:HS}(p:HU w U d g h):Calls Tryz.prog 90 #[.pointer (some ⟨d.H,0,none⟩)] w fun e w'=>e=.returned (.agg #[.int .i64 h.tries,.int .i64 h.hangs,.int .i64 h.entry,.int .i64 h.changes])∧Below w.heap.size w w':=by
 have c3:w.cell? ⟨d.H,3,none⟩=some (.int .i64 h.tries):=p.cell 3 (by omega);have c4:w.cell? ⟨d.H,4,none⟩=some (.int .i64 h.hangs):=p.cell 4 (by omega);have c5:w.cell? ⟨d.H,5,none⟩=some (.int .i64 h.entry):=p.cell 5 (by omega);have c6:w.cell? ⟨d.H,6,none⟩=some (.int .i64 h.changes):=p.cell 6 (by omega);have hH:d.H<w.heap.size:=p.lt _ (p.dR _ (Or.inl rfl));clear p;go_in;go_wp2;refine bodyPost_ret (v:=.agg #[.int .i64 h.tries,.int .i64 h.hangs,.int .i64 h.entry,.int .i64 h.changes]) ?_ rfl ⟨rfl,?_⟩
 ·simp[results,Tryz.results90,go_sem]
 ·exact(Below.refl _ _).alloc (Nat.le_refl _) _
theorem xp {w:World}{U:Nat→Prop}{d:HD}{g:PG}{h:HS}(p:HU w U d g h):Calls Tryz.prog 46 #[.pointer (some ⟨d.H,0,none⟩)] w fun e w'=>e=.returned (.agg #[.int .i64 h.tries,.int .i64 h.hangs,.int .i64 h.entry,.int .i64 h.changes])∧Below w.heap.size w w':=by
 have B0:Below w.heap.size w (w.alloc (.cells #[.int .i64 0,.int .i64 0,.int .i64 0,.int .i64 0] 60)):=(Below.refl _ _).alloc (Nat.le_refl _) _;have p0:=p.below B0;have H0:Hid (∀W,Calls Tryz.prog 42 #[.pointer (some ⟨d.H,0,none⟩)] W fun e w'=>e=.returned (.pointer (some ⟨d.H,0,none⟩))∧w'=W):=fun W=>kK W d.H
 have H1:=hid (xj p0);have hz0:(w.alloc (.cells #[.int .i64 0,.int .i64 0,.int .i64 0,.int .i64 0] 60)).heap.size=w.heap.size+1:=by simp
 clear p p0;go_in;go_wp2_with fail
 refine(H0.out _).mono ?_
 rintro e w1 ⟨rfl,hw⟩;obtain rfl:=hw.symm;go_wp2_with fail
 refine H1.out.mono ?_;rintro e w2 ⟨rfl,B2⟩;rw[hz0]at B2;have hbk:w2.heap[w.heap.size]?=some (.cells #[.int .i64 0,.int .i64 0,.int .i64 0,.int .i64 0] 60 (0,0)):=(B2.block _ (by omega)).trans (heap_alloc_new w _);have i0:w2.cell? ⟨w.heap.size,0,none⟩=some (.int .i64 0):=cell_of_row _ _ _ _ _ _ hbk;have i1:w2.cell? ⟨w.heap.size,1,none⟩=some (.int .i64 0):=cell_of_row _ _ _ _ _ _ hbk;have i2:w2.cell? ⟨w.heap.size,2,none⟩=some (.int .i64 0):=cell_of_row _ _ _ _ _ _ hbk;have i3:w2.cell? ⟨w.heap.size,3,none⟩=some (.int .i64 0):=cell_of_row _ _ _ _ _ _ hbk;have j0:=frozen_of_row w2 w.heap.size 0 _ _ hbk;have j1:=frozen_of_row w2 w.heap.size 1 _ _ hbk;have j2:=frozen_of_row w2 w.heap.size 2 _ _ hbk;have j3:=frozen_of_row w2 w.heap.size 3 _ _ hbk;have HB2:=hid (B0.trans (B2.mono (by omega)));have hl2:w.heap.size<w2.heap.size:=by have:=B2.size;omega
 clear B0 B2 hbk H1;go_wp2;refine bodyPost_ret (v:=.agg #[.int .i64 h.tries,.int .i64 h.hangs,.int .i64 h.entry,.int .i64 h.changes]) ?_ rfl ⟨rfl,?_⟩
 ·simp[results,Tryz.results46,go_sem,i0,i1,i2,i3]
 ·exact aH (aH (aH (aH HB2.out 0 _) 1 _) 2 _) 3 _
def gU (f:Nat→Nat):List Value:=(List.range 64).map fun i=>.int .u8 ((f i:Nat):Int)
theorem ry (f:Nat→Nat):(gU f).length=64:=by simp[gU]
theorem nS (f:Nat→Nat)(j:Nat)(hj:j<64):(gU f)[j]?=some (.int .u8 ((f j:Nat):Int)):=by simp[gU,List.getElem?_range hj]
theorem EZ (f f':Nat→Nat)(k:Nat)(hk:k<64)(h:∀j,j<64→f' j=if j=k then f' k else f j):(gU f).set k (.int .u8 ((f' k:Nat):Int))=gU f':=by
 apply List.ext_getElem?;intro j;by_cases hj:j<64
 ·rw[List.getElem?_set];by_cases e:k=j
  ·subst e;rw[if_pos rfl,if_pos (by rw[ry];exact hk),nS _ _ hk]
  ·rw[if_neg e,nS _ _ hj,nS _ _ hj,h j hj,if_neg (fun c=>e c.symm)]
 ·rw[List.getElem?_eq_none (by simp[ry];omega),List.getElem?_eq_none (by rw[ry];omega)]
theorem zz:zero64=(gU fun _=>0).toArray:=by unfold zero64 fU gU;simp
theorem zA {f f':Nat→Nat}(h:∀j,j<64→f j=f' j):gU f=gU f':=by
 unfold gU;apply List.map_congr_left;intro j hj;rw[h j (List.mem_range.1 hj)]
theorem xq (t:ByteArray)(gn:Nat)(w:World):(Instr.field 147 (.agg #[.string t,.slice (some ⟨gn,0,none⟩) 64 64]) 1).run Tryz.prog w=.ok (.slice (some ⟨gn,0,none⟩) 64 64) w:=by kernel_rfl
theorem CQ (l:List dQ)(n p:Nat)(hn:n<l.length):aS (l.take (n+1)) p=aS (l.take n) p|||((l.getD n fV).aV p).toNat:=by
 rw[List.take_succ_eq_append_getElem hn,sW,List.getD_eq_getElem?_getD,List.getElem?_eq_getElem hn,Option.getD_some]
theorem F0 (w:World)(H:Nat)(v:Value)(G:Nat→Nat)(l:List dQ)(K:KH w H v G l):
  Calls Tryz.prog 94 #[.pointer (some ⟨H,0,none⟩)] w fun e w'=>e=.returned (.slice (some ⟨w.heap.size,0,none⟩) 64 64)∧w'.heap[w.heap.size]?=some (.cells (gU (aS l)).toArray 5 (0,0))∧Below w.heap.size w w':=by
 have hH:=K.lt;have hmk:=y9;have hfc:=xq;have B0:Below w.heap.size w (w.alloc (.cells zero64 5)):=(Below.refl _ _).alloc (Nat.le_refl _) _;have HK:Hid (∀W,Below w.heap.size w W→KH W H v G l):=fun W b=>K.below b
 have HLE:=hid (iO _ H v G l (K.below B0).c7 (K.below B0).row);have HA:Hid (∀W n,Below w.heap.size w W→n<l.length→Calls Tryz.prog 128 #[.pointer (some ⟨H,7,none⟩),.int .i64 (n:Nat)] W fun e w'=>e=.returned (.agg #[.string (l.getD n fV).text,.slice (some ⟨G n,0,none⟩) 64 64])∧Below W.heap.size W w'):=fun W n b hn=>jX W H v G l (K.below b).c7 (K.below b).row n hn
 have HCV:Hid (∀W n q,Below w.heap.size w W→n<l.length→q<64→W.cell? ⟨G n,q,none⟩=some (.int .u8 ((l.getD n fV).aV q))∧G n<w.heap.size):=fun W n q b hn hq=>⟨(K.below b).row.zg.cell n hn q hq,K.row.zg.lt n hn⟩
 have HOR:Hid (∀n q,n<l.length→bits .or .u8 ((aS (l.take n) q:Nat):Int) ((l.getD n fV).aV q)=((aS (l.take (n+1)) q:Nat):Int)):=fun n q hn=>by
  have hc:=K.J9 hn q;have hb:=hc.bd
  obtain⟨m,hm⟩:∃m:Nat,(l.getD n fV).aV q=m:=⟨((l.getD n fV).aV q).toNat,by omega⟩
  rw[CQ l n q hn,hm,Int.toNat_natCast];exact lz _ _ (qi _ _ (fun k hk=>K.cls k (List.mem_of_mem_take hk) q)) (by omega)
 have HLN:Hid (l.length≤9223372036854775807):=by obtain⟨_,_,_,hn⟩:=K.row.head;exact hn
 have hln:=HLN.out;generalize hN:l.length=N at*;have HN:=hid hN;clear K hN HLN;go_in;go_wp2_with fail
 refine HLE.out.mono ?_;rintro e w1 ⟨rfl,hw⟩;obtain rfl:=hw;clear HLE;go_wp2_with fail
 go_loopw [4,5,6,12] (fun _ _ _ i wr=>∃n:Nat,n≤N∧i=.int .i64 n∧wr.heap[w.heap.size]?=some (.cells (gU (aS (l.take n))).toArray 5 (0,0))∧Below w.heap.size w wr) (fun _ _ _ i _=>N-(intOf i).toNat)
 case atStart=>exact ⟨0,by omega,rfl,by rw[heap_alloc_new,zz];rfl,B0⟩
 case round=>
  obtain⟨n,hn,rfl,hrow,BB⟩:=hrel
  by_cases hlt:n<N
  ·have hi1:(n:Int)<(N:Int):=(by omega);have H1:=hid (HA.out wr n BB hlt);have HB:Hid (Below w.heap.size w wr∧wr.heap[w.heap.size]?=some (.cells (gU (aS (l.take n))).toArray 5 (0,0))):=⟨BB,hrow⟩;have HLT:=hid hlt;clear BB hrow hmk
   generalize(l.getD n fV).text=tx at H1
   go_wp2_with fail
   refine H1.out.mono ?_;rintro e w2 ⟨rfl,B2⟩;have hlr:w.heap.size<wr.heap.size:=(Array.getElem?_eq_some_iff.1 HB.out.2).1;have HR2:Hid (Below w.heap.size w w2∧w2.heap[w.heap.size]?=some (.cells (gU (aS (l.take n))).toArray 5 (0,0))):=⟨HB.out.1.trans (B2.mono HB.out.1.size),(B2.block _ hlr).trans HB.out.2⟩;clear B2 H1 HB;go_wp2_with fail
   go_loopw [5,6,22] (fun _ _ i wx=>∃q:Nat,q≤64∧i=.int .i64 q∧wx.heap[w.heap.size]?=some (.cells (gU (fun j=>if j<q then aS (l.take (n+1)) j else aS (l.take n) j)).toArray 5 (0,0))∧Below w.heap.size w wx) (fun _ _ i _=>64-(intOf i).toNat)
   case atStart=>exact ⟨0,by omega,rfl,HR2.out.2,HR2.out.1⟩
   case round=>
    obtain⟨q,hq,rfl,hrow,BB⟩:=hrel
    by_cases hlq:q<64
    ·have hj1:(q:Int)<64:=by omega
     obtain⟨cc,hgl⟩:=HCV.out wr n q BB HLT.out hlq
     have hor:=HOR.out n q (by have:=HN.out;have:=HLT.out;omega);have c1:wr.cell? ⟨w.heap.size,q,none⟩=some (.int .u8 ((aS (l.take n) q:Nat):Int)):=by
      rw[cell_of_row wr w.heap.size q _ _ _ hrow,List.getElem?_toArray,nS _ _ hlq,if_neg (by omega)]
     have f1:=frozen_of_row wr w.heap.size q _ _ hrow;have HR3:Hid ((wr.setCell ⟨w.heap.size,q,none⟩ (.int .u8 ((aS (l.take (n+1)) q:Nat):Int))).heap[w.heap.size]?=some (.cells (gU (fun j=>if j<q+1 then aS (l.take (n+1)) j else aS (l.take n) j)).toArray 5 (0,0))∧Below w.heap.size w (wr.setCell ⟨w.heap.size,q,none⟩ (.int .u8 ((aS (l.take (n+1)) q:Nat):Int)))):=by
      refine⟨?_,BB.setCell (p:=⟨w.heap.size,q,none⟩) (Nat.le_refl _) _⟩
      rw[heap_setCell_same wr w.heap.size q _ _ _ hrow]
      have:=EZ (fun j=>if j<q then aS (l.take (n+1)) j else aS (l.take n) j) (fun j=>if j<q+1 then aS (l.take (n+1)) j else aS (l.take n) j) q hlq (fun j _=>by
       by_cases e:j=q
       ·subst e;rw[if_pos rfl]
       ·rw[if_neg e];by_cases c:j<q
        ·simp[c,show j<q+1 by omega]
        ·simp[c,show ¬j<q+1 by omega])
      rw[←this]
      simp
     have hsl:w.heap.size<wr.heap.size:=(Array.getElem?_eq_some_iff.1 hrow).1;have hgl':G n<wr.heap.size:=by have:=BB.size;omega
     have hgn:G n≠w.heap.size:=(by omega);clear hrow BB
     generalize(l.getD n fV).aV q=cv at cc hor
     generalize aS (l.take (n+1)) q=s2 at hor HR3;generalize aS (l.take n) q=s1 at hor c1;generalize G n=gn at*;go_wp2_with fail
     go_roundw
     case rel=>exact ⟨q+1,by omega,by go_num,HR3.out.1,HR3.out.2⟩
     case measure=>simp [intOf];omega
    ·have hj1:¬(q:Int)<64:=(by omega);have HR3:Hid (wr.heap[w.heap.size]?=some (.cells (gU (aS (l.take (n+1)))).toArray 5 (0,0))∧Below w.heap.size w wr):=by
      refine⟨?_,BB⟩
      rw[hrow,zA (f':=aS (l.take (n+1))) (fun j hj=>by show(if j<q then _ else _)=_;rw[if_pos (by omega)])]
     clear hrow BB;have hlt:=HLT.out;go_wp2_with fail
     go_roundw
     case rel=>exact ⟨n+1,by omega,by go_num,HR3.out.1,HR3.out.2⟩
     case measure=>simp [intOf];omega
  ·have hi1:¬(n:Int)<(N:Int):=(by omega);have HF:Hid (wr.heap[w.heap.size]?=some (.cells (gU (aS l)).toArray 5 (0,0))∧Below w.heap.size w wr):=by
    have e:l.take n=l:=List.take_of_length_le (by have:=HN.out;omega);rw[e]at hrow
    exact⟨hrow,BB⟩
   clear hrow BB;go_wp2_with fail
   go_ret
   exact⟨rfl,HF.out⟩
structure jq (R:ByteArray→Sh) (h:HS):Prop where
 inv:cE R h
 pos:Hpos h
 wk:∀i,h.kept.length≤i→h.worked i=false
 txt:∀x∈h.az,x.2.size≤24
 zv:h.hangs≤h.tries
section
variable {R:ByteArray→Sh} {h:HS}
theorem nR (aa:Int)(h0:0≤aa)(h1:aa≤18446744073709551615):jq R (HS.zero aa):=⟨lS _ _,oG aa h0 h1,fun _ _=>rfl,fun x hx=>by simp[HS.zero]at hx,Nat.le_refl _⟩
theorem ET (s:ByteArray):(aD R h s).1.az=h.az∨∃b,(aD R h s).1.az=h.az++[(b,s)]:=by
 rcases gR R h s with⟨a,_⟩|⟨_,_,_,_,e,_⟩|⟨_,_,_,_,_,_,e,_⟩
 ·exact Or.inl a.az
 ·exact Or.inr ⟨_,e⟩
 ·exact Or.inr ⟨_,e⟩
theorem jq.tried (p:jq R h)(hR:sO R)(s:ByteArray)(hs:s.size≤24):jq R (aD R h s).1:=by
 obtain⟨_,_,_,e4,e5,e6⟩:=j9 R h s
 refine⟨p.inv.tried hR s hs,p.pos.tried s,fun i hi=> ?_,fun x hx=> ?_,by have:=p.zv;omega⟩
 ·rw[e4];exact p.wk i (Nat.le_trans (dG R h s) hi)
 ·rcases ET (R:=R) (h:=h) s with e|⟨b,e⟩
  ·rw[e]at hx;exact p.txt x hx
  ·rw[e]at hx;rcases List.mem_append.1 hx with c|c
   ·exact p.txt x c
   ·simp at c;subst c;exact hs
theorem jq.tries (hR:sO R):∀(l:List ByteArray) (h:HS),jq R h→(∀s∈l,s.size≤24)→jq R (bX R h l)
 |[],_,p,_=>p
 |s::l,_,p,hl=>jq.tries hR l _ (p.tried hR s (hl s (by simp))) (fun x hx=>hl x (by simp[hx]))
theorem jq.one (p:jq R h)(hR:sO R)(hk:0<h.kept.length):jq R (h.one R):=by
 have q:jq R {h with aa:=h.aG}:=⟨p.inv.alike ⟨rfl,rfl,rfl⟩,⟨p.pos.entry,p.pos.none,p.pos.changes,(eu p.pos).1,(eu p.pos).2⟩,p.wk,p.txt,p.zv⟩;have q1:=q.tried hR h.aK (fc p.inv);have q2:=p.pos.one p.inv hR hk;have q3:=p.inv.one hR;have hg:h.kept.length≤(aD R {h with aa:=h.aG} h.aK).1.kept.length:=dG R {h with aa:=h.aG} _;have he:=q1.pos.entry (by omega)
 refine⟨q3,q2,?_,?_,?_⟩
 all_goals
  unfold HS.one;dsimp only
  generalize(aD R {h with aa:=h.aG} h.aK).1=h1 at q1 he⊢
  split
 ·intro i hi;have hi':h1.kept.length≤i:=hi
  show(if i=h1.entry then true else h1.worked i)=false
  rw[if_neg (by omega)];exact q1.wk i hi'
 ·exact q1.wk
 ·exact q1.txt
 ·exact q1.txt
 ·exact q1.zv
 ·exact q1.zv
theorem jq.go (p:jq R h)(hR:sO R)(hk:0<h.kept.length):∀n,jq R (h.go R n)
 |0=>p
 |n+1=>(jq.go p hR hk n).one hR (Hpos.go p.pos p.inv hR hk n).2
theorem jq.sz (p:jq R h)(f:Ls R)(ht:h.tries≤4611686018427387904):AE h:=⟨ht,by have:=p.zv;omega,by have:=p.inv.most;omega,by have:=nL p.inv f;omega,by have:=jB p.inv f;omega⟩
end
end Go.Proofs.YtmpgjkhchfcjlaaGreatDoor
