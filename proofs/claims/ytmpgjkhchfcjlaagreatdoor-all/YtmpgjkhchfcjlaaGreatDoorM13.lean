import Derived.Test.YtmpgjkhchfcjlaaGreatDoorM11
import Derived.OpenShut
import Derived.Laws.IdiomCopy
import Derived.Laws.NewBlocks
import Derived.Lib.ConvBytes
import Derived.Lib.LazyBuf
import Derived.Lib.SliceRun
import Derived.Lib.Overlaps
import Derived.Lib.AppendZerosOnto
import Derived.Lib.JoinLaws
import Derived.Laws.Externs
import Derived.Lib.Walk
namespace Go.Proofs.YtmpgjkhchfcjlaaGreatDoor
open Go.RowKit
set_option maxRecDepth 1000000
set_option maxHeartbeats 4000000
def nums (s:ByteArray):List Int:=s.data.toList.map fun b=>(b.toNat:Int)
theorem af (s:ByteArray):(nums s).length=s.size:=by
 simp only[nums,List.length_map];exact Array.length_toList
def iL (l:List Int):Prop:=∀x∈l,0≤x∧x≤255
theorem bt (s:ByteArray):iL (nums s):=by
 intro x hx;simp only[nums,List.mem_map]at hx
 obtain⟨b,_,rfl⟩:=hx
 have:=b.toNat_lt
 omega
theorem ofNat_toNat (b:UInt8):UInt8.ofNat ((b.toNat:Int)).toNat=b:=by simp
theorem jT (s:ByteArray):strOfNums (nums s)=s:=by
 cases s with
 |mk d=>
  cases d with
  |mk l=>
   simp only[strOfNums,nums,List.map_map];congr 1
   have:((fun n:Int=>UInt8.ofNat n.toNat)∘fun b:UInt8=>(b.toNat:Int))=id:=funext fun b=>ofNat_toNat b
   rw[this,List.map_id]
theorem eX {a b:ByteArray}(h:nums a=nums b):a=b:=by rw[←jT a,←jT b,h]
theorem bz {l:List Int}(h:iL l):nums (strOfNums l)=l:=by
 simp only[strOfNums,nums,List.map_map];conv=>rhs;rw[←List.map_id l]
 apply List.map_congr_left;intro x hx
 have:=h x hx
 simp only[Function.comp,UInt8.toNat_ofNat',id];have e:x.toNat%256=x.toNat:=Nat.mod_eq_of_lt (by omega);rw[show(2:Nat)^8=256 from rfl,e];omega
theorem bN (a b:ByteArray):nums (a++b)=nums a++nums b:=by simp[nums]
theorem aU (s:ByteArray)(i j:Nat):nums (s.extract i j)=((nums s).drop i).take (j-i):=by
 simp[nums,List.map_take,List.map_drop]
theorem lp (s:ByteArray)(i:Nat)(h:i<s.size):((s[i]'h).toNat:Int)=(nums s).getD i 0:=by
 have h':i<s.data.toList.length:=by simpa using h
 simp[nums,List.getD,h,ByteArray.getElem_eq_getElem_data]
theorem BR (s:ByteArray)(i:Nat)(h:i<s.size):((s.data.toList.getD i 0).toNat:Int)=(nums s).getD i 0:=by
 have h':=h;simp[nums,List.getD,Array.getElem?_eq_getElem h']
theorem iL.at {l:List Int}(h:iL l)(i:Nat):0≤l.getD i 0∧l.getD i 0≤255:=by
 rw[List.getD_eq_getElem?_getD]
 cases e:l[i]? with
 |none=>simp
 |some x=>exact h x (List.mem_of_getElem? e)
theorem iL.set {l:List Int}(h:iL l)(i:Nat){v:Int}(h0:0≤v)(h1:v≤255):iL (l.set i v):=fun x hx=>by
 rcases List.mem_or_eq_of_mem_set hx with hx|rfl
 ·exact h x hx
 ·exact⟨h0,h1⟩
theorem iL.app {a b:List Int}(ha:iL a)(hb:iL b):iL (a++b):=fun x hx=>by
 rcases List.mem_append.1 hx with h|h
 ·exact ha x h
 ·exact hb x h
theorem iL.take {a:List Int}(ha:iL a)(n:Nat):iL (a.take n):=fun x hx=>ha x (List.mem_of_mem_take hx)
theorem iL.drop {a:List Int}(ha:iL a)(n:Nat):iL (a.drop n):=fun x hx=>ha x (List.mem_of_mem_drop hx)
theorem fE {v:Int}(h0:0≤v)(h1:v≤255):iL [v]:=fun x hx=>by simp at hx;subst hx;exact⟨h0,h1⟩
theorem jv (op:BinOp)(x y:Int):0≤bits op .u8 x y∧bits op .u8 x y≤255:=by
 have:=wf_bits op .u8 x y
 simp[Lit.wf,IntKind.min,IntKind.max,IntKind.signed,IntKind.bits]at this;omega
def e9 (l:List Int)(k:Nat):List Int:=l.set (k/8) (bits .xor .u8 (l.getD (k/8) 0) (2^(7-k%8)))
def nD (k:Nat):Int:=[0,1,127,128,255].getD k 0
def mA (l:List Int)(n:Nat):List Int:=l.take n++l.drop (n+1)
def mW (l:List Int)(n:Nat):List Int:=l.take n++l.getD n 0::l.drop n
def cL (l:List Int)(n:Nat):Option (List Int):=
 let L:=l.length
 if n<8*L then some (e9 l n)
 else if n-8*L<8*L-1 then some (e9 (e9 l (n-8*L)) (n-8*L+1))
 else if n-8*L-(8*L-1)<L then some (l.set (n-8*L-(8*L-1)) (bits .xor .u8 (l.getD (n-8*L-(8*L-1)) 0) 255))
 else if n-8*L-(8*L-1)-L<4*L then some (l.set ((n-8*L-(8*L-1)-L)/4) ((l.getD ((n-8*L-(8*L-1)-L)/4) 0+((n-8*L-(8*L-1)-L)%4+1:Nat))%256))
 else if n-8*L-(8*L-1)-L-4*L<4*L then some (l.set ((n-8*L-(8*L-1)-L-4*L)/4) ((l.getD ((n-8*L-(8*L-1)-L-4*L)/4) 0-((n-8*L-(8*L-1)-L-4*L)%4+1:Nat))%256))
 else if n-8*L-(8*L-1)-L-4*L-4*L<5*L then some (l.set ((n-8*L-(8*L-1)-L-4*L-4*L)/5) (nD ((n-8*L-(8*L-1)-L-4*L-4*L)%5)))
 else if n-8*L-(8*L-1)-L-4*L-4*L-5*L<L then some (mA l (n-8*L-(8*L-1)-L-4*L-4*L-5*L))
 else if n-8*L-(8*L-1)-L-4*L-4*L-5*L-L<L∧L<24 then some (mW l (n-8*L-(8*L-1)-L-4*L-4*L-5*L-L))
 else none
def qL (x:Int):Int:=
 bits .xor .u64 (bits .xor .u64 (bits .xor .u64 x (x/4096)) (IntKind.u64.wrap (bits .xor .u64 x (x/4096)*33554432))) (bits .xor .u64 (bits .xor .u64 x (x/4096)) (IntKind.u64.wrap (bits .xor .u64 x (x/4096)*33554432))/134217728)
def sd (x:Int):Int:=qL (if x=0 then 88172645463325252 else x)
def dr (x:Int)(n:Nat):Nat:=(IntKind.u64.wrap (sd x*2685821657736338717)/8589934592).toNat%n
def eY (l o:List Int)(x:Int):List Int×Int:=
 let L:=l.length
 let w:=dr x 6
 let y:=sd x
 if L=0∧w≠3∧w≠4 then(l,y)
 else if w=0 then(e9 l (dr y (8*L)),sd y)
 else if w=1 then(l.set (dr y L) (dr (sd y) 256:Int),sd (sd y))
 else if w=2 then(mA l (dr y L),sd y)
 else if w=3 then(if 24≤L then(l,y)else(l.take (dr y (L+1))++(dr (sd y) 256:Int)::l.drop (dr y (L+1)),sd (sd y)))
 else if w=4 then((l.take (dr y (L+1))++o.drop (dr (sd y) (o.length+1))).take 24,sd (sd y))
 else(l.set (dr y L) (l.getD (dr (sd y) L) 0),sd (sd y))
def cN (l o:List Int)(x:Int):Nat→List Int×Int
 |0=>(l,x)
 |n+1=>eY (cN l o x n).1 o (cN l o x n).2
def j8 (l o:List Int)(x:Int):List Int×Int:=cN l o (sd x) (1+dr x 4)
theorem jU (l:List Int)(k:Nat):(e9 l k).length=l.length:=by simp[e9]
theorem wq {l:List Int}(h:iL l)(k:Nat):iL (e9 l k):=h.set _ (jv _ _ _).1 (jv _ _ _).2
theorem Ho (l:List Int)(k:Nat)(h:k<l.length):(mA l k).length=l.length-1:=by simp[mA];omega
theorem Ao {l:List Int}(h:iL l)(k:Nat):iL (mA l k):=(h.take _).app (h.drop _)
theorem ug {l:List Int}(h:iL l)(k:Nat){v:Int}(h0:0≤v)(h1:v≤255):iL (l.take k++v::l.drop k):=(h.take _).app (fun x hx=>by
 rcases List.mem_cons.1 hx with rfl|hx
 ·exact⟨h0,h1⟩
 ·exact h.drop _ x hx)
theorem uh (l:List Int)(k:Nat)(v:Int)(h:k≤l.length):(l.take k++v::l.drop k).length=l.length+1:=by simp;omega
theorem dP (x:Int)(n:Nat)(h:0<n):dr x n<n:=Nat.mod_lt _ h
theorem Eb {l o:List Int}(hl:iL l)(ho:iL o)(x:Int):iL (eY l o x).1:=by
 unfold eY;dsimp only;have hd:=dP (sd (sd x)) 256 (by omega);split
 ·exact hl
 split
 ·exact wq hl _
 split
 ·exact hl.set _ (by omega) (by omega)
 split
 ·exact Ao hl _
 split
 ·split
  ·exact hl
  ·exact ug hl _ (by omega) (by omega)
 split
 ·exact((hl.take _).app (ho.drop _)).take _
 ·exact hl.set _ (hl.at _).1 (hl.at _).2
theorem Ec {l o:List Int}(hl:l.length≤24)(ho:o.length≤24)(x:Int):(eY l o x).1.length≤24∧(eY l o x).1.length≤l.length+o.length+1:=by
 unfold eY;dsimp only;split
 ·exact⟨hl,by dsimp only;omega⟩
 split
 ·rw[jU];exact⟨hl,by omega⟩
 split
 ·simp;omega
 split
 ·simp[mA];omega
 split
 ·split
  ·exact⟨hl,by dsimp only;omega⟩
  ·have:=dP (sd x) (l.length+1) (by omega)
   rw[uh _ _ _ (by omega)];omega
 split
 ·simp;omega
 ·simp;omega
theorem sN {l o:List Int}(hl:iL l)(ho:iL o)(x:Int):∀n,iL (cN l o x n).1
 |0=>hl
 |n+1=>Eb (sN hl ho x n) ho _
theorem oz {l o:List Int}(hl:l.length≤24)(ho:o.length≤24)(x:Int):∀n,(cN l o x n).1.length≤24∧(cN l o x n).1.length≤l.length+n*(o.length+1)
 |0=>⟨hl,by simp[cN]⟩
 |n+1=>by
  have ih:=oz hl ho x n
  have:=Ec ih.1 ho (cN l o x n).2
  refine⟨this.1,?_⟩
  rw[Nat.succ_mul]
  have:=this.2
  show(eY _ o _).1.length≤_
  omega
structure eM (w:World) (g cap:Nat) (l:List Int):Prop where
 cell:∀i,i<l.length→w.cell? ⟨g,i,none⟩=some (.int .u8 (l.getD i 0))
 room:∀i,i<cap→(w.cell? ⟨g,i,none⟩).isSome=true
 iy:∀i,i<cap→w.frozen? ⟨g,i,none⟩=false
 le:l.length≤cap
 most:cap≤9223372036854775807
 lt:g<w.heap.size
 wE:iL l
theorem eM.of_block {w w':World}{g cap:Nat}{l:List Int}(h:eM w g cap l)(hb:w'.heap[g]?=w.heap[g]?)(hs:w.heap.size≤w'.heap.size):eM w' g cap l where
 cell:=fun i hi=>(World.cell?_of_block (w:=w) hb).trans (h.cell i hi)
 room:=fun i hi=>by rw[World.cell?_of_block (w:=w) (w':=w') (a:=⟨g,i,none⟩) hb];exact h.room i hi
 iy:=fun i hi=>(World.frozen?_of_block (w:=w) (w':=w') (a:=⟨g,i,none⟩) hb).trans (h.iy i hi)
 le:=h.le
 most:=h.most
 lt:=Nat.lt_of_lt_of_le h.lt hs
 wE:=h.wE
theorem eM.below {w w':World}{g cap B:Nat}{l:List Int}(h:eM w g cap l)(b:Below B w w')(hg:g<B):eM w' g cap l:=h.of_block (b.block g hg) b.size
theorem eM.drew {w:World}{g cap:Nat}{l:List Int}(h:eM w g cap l):eM w.drew g cap l:=h.of_block rfl (Nat.le_refl _)
theorem eM.drewN {w:World}{g cap:Nat}{l:List Int}(h:eM w g cap l)(n:Nat):eM (w.drewN n) g cap l:=h.of_block rfl (Nat.le_refl _)
theorem eM.alloc {w:World}{g cap:Nat}{l:List Int}(h:eM w g cap l)(o:Obj):eM (w.alloc o) g cap l:=h.of_block (Below.heap_alloc w o g h.lt) (by simp)
theorem eM.other {w:World}{g cap:Nat}{l:List Int}(h:eM w g cap l){a:Addr}(ha:g≠a.block)(v:Value):eM (w.setCell a v) g cap l:=h.of_block (Below.heap_setCell w a v g ha) (by simp)
theorem eM.take {w:World}{g cap:Nat}{l:List Int}(h:eM w g cap l)(n:Nat):eM w g cap (l.take n) where
 cell:=fun i hi=>by
  rw[List.length_take]at hi;rw[h.cell i (by omega),List.getD_eq_getElem?_getD,List.getD_eq_getElem?_getD,List.getElem?_take,if_pos (by omega)]
 room:=h.room
 iy:=h.iy
 le:=by rw[List.length_take];have:=h.le;omega
 most:=h.most
 lt:=h.lt
 wE:=h.wE.take n
theorem mI (b:Nat):∀(vs:List Value) (o:Nat) (w:World),(w.setCells b o vs).heap.size=w.heap.size
 |[],_,_=>rfl
 |v::r,o,w=>by rw[World.setCells,mI b r];simp
theorem mJ (b:Nat):∀(vs:List Value) (o:Nat) (w:World) (x:Addr),(w.cell? x).isSome=true→((w.setCells b o vs).cell? x).isSome=true
 |[],_,_,_,h=>h
 |v::r,o,w,x,h=>by
  rw[World.setCells];apply mJ b r;by_cases e:x=⟨b,o,none⟩
  ·subst e
   obtain⟨u,hu⟩:=Option.isSome_iff_exists.1 h
   rw[World.cell?_setCell_same w ⟨b,o,none⟩ v hu];rfl
  ·rw[World.cell?_setCell_other _ _ _ _ (fun h=>e h.symm)];exact h
theorem eM.put {w:World}{g cap:Nat}{l:List Int}(h:eM w g cap l)(o:Nat)(vs:List Int)(ho:o≤l.length)(hv:o+vs.length≤cap)(hb:iL vs):
  eM (w.setCells g o (vs.map (Value.int .u8))) g cap (l.take o++vs++l.drop (o+vs.length)) where
 cell:=fun i hi=>by
  have hin:=World.cell?_setCells_in g (vs.map (Value.int .u8)) o w (fun j hj=>h.room _ (by simp at hj;omega));rw[List.getD_eq_getElem?_getD];by_cases h1:i<o
  ·rw[World.cell?_setCells_out _ _ _ _ _ (fun _ _=>Or.inl h1),h.cell i (by omega),List.append_assoc,List.getElem?_append_left (by simp;omega),List.getElem?_take,if_pos h1,List.getD_eq_getElem?_getD]
  ·by_cases h2:i<o+vs.length
   ·have:=hin (i-o) (by simp;omega)
    rw[show o+(i-o)=i by omega]at this;have e1:(List.take o l++vs)[i]?=some (vs[i-o]'(by omega)):=by
     rw[List.getElem?_append_right (by simp;omega)];simp only[List.length_take,Nat.min_eq_left ho];exact List.getElem?_eq_getElem (by omega)
    rw[this,List.getElem?_append_left (by simp;omega),e1]
    simp
   ·have hi':i<l.length:=by simp at hi;omega
    rw[World.cell?_setCells_out _ _ _ _ _ (fun _ _=>Or.inr (by simp;omega)),h.cell i hi',List.getElem?_append_right (by simp;omega),List.getElem?_drop,List.getD_eq_getElem?_getD];simp only[List.length_append,List.length_take,Nat.min_eq_left ho];rw[show o+vs.length+(i-(o+vs.length))=i by omega]
 room:=fun i hi=>mJ _ _ _ _ _ (h.room i hi)
 iy:=fun i hi=>by rw[World.frozen?_setCells];exact h.iy i hi
 le:=by have:=h.le;simp;omega
 most:=h.most
 lt:=by rw[mI];exact h.lt
 wE:=((h.wE.take o).app hb).app (h.wE.drop _)
theorem eM.set {w:World}{g cap:Nat}{l:List Int}(h:eM w g cap l)(i:Nat)(v:Int)(hi:i<l.length)(h0:0≤v)(h1:v≤255):eM (w.setCell ⟨g,i,none⟩ (.int .u8 v)) g cap (l.set i v):=by
 have hle:=h.le
 have:=h.put i [v] (by omega) (by simp;omega) (fE h0 h1)
 have e:l.take i++[v]++l.drop (i+[v].length)=l.set i v:=by
  rw[List.set_eq_take_append_cons_drop,if_pos hi]
  simp
 rw[e]at this;exact this
theorem eM.at {w:World}{g cap:Nat}{l:List Int}(h:eM w g cap l)(i:Nat)(hi:i<l.length):w.cell? ⟨g,i,none⟩=some (.int .u8 (l.getD i 0))∧w.frozen? ⟨g,i,none⟩=false:=⟨h.cell i hi,h.iy i (by have:=h.le;omega)⟩
theorem Aq (w:World)(l:List Int)(n:Nat)(hl:iL l)(hm:l.length+n≤9223372036854775807):
  eM (w.alloc (.cells ((l.map (Value.int .u8)).toArray++Builtin.zeroCells (Value.int .u8 0).cells n) 5)) w.heap.size (l.length+n) l where
 cell:=fun i hi=>by
  rw[World.cell?_alloc_new,Array.getElem?_append_left (by simp;exact hi)];simp[List.getD_eq_getElem?_getD,List.getElem?_eq_getElem hi]
 room:=fun i hi=>by
  rw[World.cell?_alloc_new,Array.getElem?_eq_getElem (by simp[Builtin.zeroCells,Value.cells];exact hi)];rfl
 iy:=fun i _=>World.frozen?_alloc_at (w:=w) _ _ w.heap.size i rfl
 le:=by omega
 most:=hm
 lt:=by simp
 wE:=hl
theorem Ar (w:World)(s:ByteArray)(hs:s.size≤1000):∃w' cap,(convert 9 39 (.string s)).run Tryz.prog w=.ok (.slice (some ⟨w.heap.size,0,none⟩) s.size cap) w'∧eM w' w.heap.size cap (nums s)∧Below w.heap.size w w'∧w'.heap.size=w.heap.size+1:=by
 refine⟨_,_,Lib.run_convert_string_bytes w 9 39 5 s Tryz.underlying9 Tryz.underlying39 Tryz.underlying5,?_,?_,Lib.bytesWorld_size _ _ _⟩
 ·have hge:s.size≤grownCap w s.size 0 5:=grownCap_ge w _ _ _;have hle:=grownCap_le_maxLen w s.size 0 5 (by unfold maxLen;omega);have hn:=Lib.bytesWorld_at_new w 5 s;have hsz:(Lib.bytesCells w 5 s).size=grownCap w s.size 0 5:=by
   unfold Lib.bytesCells
   simp
   have:s.data.size=s.size:=rfl
   omega
  refine⟨fun i hi=> ?_,fun i hi=> ?_,fun i hi=> ?_,by rw[af];exact hge,by unfold maxLen at hle;omega,by rw[Lib.bytesWorld_size];omega,bt s⟩
  ·rw[af]at hi;rw[Lib.bytesWorld_cell w 5 s i hi,BR s i hi]
  ·simp only[World.cell?,hn];rw[Array.getElem?_eq_getElem (by rw[hsz];exact hi)];rfl
  ·simp only[World.frozen?,hn];rw[hsz]
   simp
   omega
 ·refine⟨rfl,rfl,rfl,by rw[Lib.bytesWorld_size];omega,fun k hk=>Lib.bytesWorld_at_old w 5 s k hk⟩
theorem fF {w:World}{g cap:Nat}{l:List Int}(h:eM w g cap l):(convert 39 9 (.slice (some ⟨g,0,none⟩) l.length cap)).run Tryz.prog w=.ok (.string (strOfNums l)) w:=
 run_convert_bytes_arg w 39 5 Tryz.underlying39 Tryz.underlying5 g 0 l.length cap l rfl (fun i hi=>by rw[Nat.zero_add];exact h.cell i hi) 9 Tryz.underlying9
def cD (w:World)(g:Nat)(l':List Int)(e:Ending)(w':World):Prop:=
 ∃g' cap',g≤g'∧e=.returned (.slice (some ⟨g',0,none⟩) l'.length cap')∧eM w' g' cap' l'∧Below g w w'
theorem KC:(Tryz.prog.info? 5).map (fun i=>(i.zero,i.size,i.bytes))=some (some (.int .u8 0),1,1):=by kernel_rfl
theorem lB:∃i0,Tryz.prog.info? 5=some i0∧i0.zero=some (.int .u8 0)∧i0.size=1∧i0.bytes=1:=by
 obtain⟨i,hi,h⟩:=Option.map_eq_some_iff.1 KC
 simp only[Prod.mk.injEq]at h
 exact⟨i,hi,h.1,h.2.1,h.2.2⟩
theorem qQ (l:List Int):∀u∈l.map (Value.int .u8),u.oneCell'=true:=by
 intro u hu
 obtain⟨x,_,rfl⟩:=List.mem_map.1 hu
 rfl
theorem fe {g o:Nat}(vs:List Value){w w':World}(h:Below g w w'):Below g w (w'.setCells g o vs):=by
 induction vs generalizing o w' with
 |nil=>exact h
 |cons v r ih=>exact ih (h.setCell (Nat.le_refl _) v)
theorem yH (w:World)(g cap i:Nat)(l:List Int)(h:eM w g cap l)(hi:i<l.length):
  Calls Tryz.prog 188 #[.slice (some ⟨g,0,none⟩) l.length cap,.int .i64 i,.int .i64 (i+1:Nat)] w (cD w g (mA l i)):=by
 obtain⟨i0,hi0,_,hz1,_⟩:=lB
 have hle:=h.le;have hm:=h.most
 obtain⟨news,hnews⟩:∃news,news=(l.drop (i+1)).map (Value.int .u8):=⟨_,rfl⟩
 have hlen:news.length=l.length-(i+1):=by rw[hnews];simp
 have hget:∀t,t<l.length-(i+1)→news[t]?=some (.int .u8 (l.getD (i+1+t) 0)):=by
  intro t ht;rw[hnews,List.getElem?_map,List.getElem?_drop,List.getElem?_eq_getElem (by omega),List.getD_eq_getElem?_getD,List.getElem?_eq_getElem (by omega)];rfl
 obtain⟨A,hA,hsrc⟩:∃A:Addr,(if cap=i+1 then some (⟨g,0,none⟩:Addr)else some ⟨g,i+1,none⟩)=some A∧Hid (∀t u,news[t]?=some u→w.drew.cell? (A.add t)=some u):=by
  by_cases hc:cap=i+1
  ·refine⟨⟨g,0,none⟩,by simp[hc],fun t u hu=> ?_⟩
   have h0:news.length=0:=by rw[hlen];omega
   rw[List.length_eq_zero_iff.1 h0]at hu;simp at hu
  ·refine⟨⟨g,i+1,none⟩,by simp[hc],fun t u hu=> ?_⟩
   have ht:t<l.length-(i+1):=by
    have:=(List.getElem?_eq_some_iff.1 hu).1
    rwa[hlen]at this
   rw[hget t ht]at hu;rw[Addr.add_lit]
   exact(h.cell (i+1+t) (by omega)).trans hu
 have s1:Hid (news.length=(l.length-(i+1))*1):=by rw[Nat.mul_one];exact hlen
 have s2:Hid (∀u∈news,u.oneCell'=true):=by rw[hnews];exact qQ _
 have s3:Hid (∀t,t<news.length→(w.drew.cell? ⟨g,0+i*1+t,none⟩).isSome=true∧w.drew.frozen? ⟨g,0+i*1+t,none⟩=false):=by
  intro t ht;rw[hlen]at ht;rw[Nat.mul_one,Nat.zero_add]
  exact⟨h.room (i+t) (by omega),h.iy (i+t) (by omega)⟩
 obtain⟨W1,hW1⟩:∃W1,W1=w.drew.setCells g (0+i*1) news:=⟨_,rfl⟩
 have T1:eM W1 g cap (l.take i++l.drop (i+1)++l.drop (i+(l.drop (i+1)).length)):=by
  rw[hW1,hnews,Nat.mul_one,Nat.zero_add];exact h.drew.put i _ (by omega) (by simp;omega) (h.wE.drop _)
 have B1:Below g w W1:=by rw[hW1];exact fe _ (Below.refl _ _).drew
 have hcl:∀ty,(Builtin.clear_ #[39] ty #[.slice (some ⟨g,i+(l.length-(i+1)),none⟩) (l.length-(i+(l.length-(i+1)))) (cap-(i+(l.length-(i+1))))]).run Tryz.prog W1=.ok (.tuple #[]) (W1.setCells g (i+(l.length-(i+1))) (List.replicate (l.length-(i+(l.length-(i+1)))) (.int .u8 0))):=
  fun ty=>Lib.run_clear_slice W1 _ _ ty _ Tryz.underlying39 Tryz.zeroValue5 rfl rfl g (i+(l.length-(i+1))) _ _ (by omega) (fun t ht=>T1.room _ (by omega)) (fun t ht=>T1.iy _ (by omega))
 have X:=hid T1;have hW:=hid hW1;have hic:i≤cap:=by omega
 have hjc:i+1≤cap:=by omega
 have HLL:=hid hi;have hx1:(0:Int)≤(i:Int)+1:=by omega
 have hx2:(i:Int)+1≤(l.length:Int):=by omega
 generalize hLn:l.length=L at*;clear hW1 T1 h hget hnews hlen;go_in;go_wp2_with fail
 go_region_law(refine step_append_room rfl (.tmp 22) (.tmp 25) 39 rfl 5 i0 1 Tryz.underlying39 hi0 hz1 g 0 i cap (by simp[Act.eval,Act.put]) A (L-(i+1)) (cap-(i+1)) news (by simp[Act.eval,Act.put]) s1.out hsrc.out s2.out (by omega) s3.out ?_;rw[←hW.out])
 go_wp2;go_ret;have hi:=HLL.out;have hcut:(mA l i).length=L-1:=by rw[Ho _ _ (by omega),hLn]
 refine⟨g,cap,Nat.le_refl _,by rw[hcut,show L-1=i+(L-(i+1)) by omega];rfl,?_,fe _ B1⟩
 have T2:=(X.out.put (i+(L-(i+1))) (List.replicate (L-(i+(L-(i+1)))) 0) (by simp;omega) (by simp;omega) (fun x hx=>by rw[List.eq_of_mem_replicate hx];omega)).take (L-1);rw[List.map_replicate]at T2;have e:(List.take (i+(L-(i+1))) (List.take i l++List.drop (i+1) l++List.drop (i+(List.drop (i+1) l).length) l)++List.replicate (L-(i+(L-(i+1)))) 0++List.drop (i+(L-(i+1))+(List.replicate (L-(i+(L-(i+1)))) (0:Int)).length) (List.take i l++List.drop (i+1) l++List.drop (i+(List.drop (i+1) l).length) l)).take (L-1)=mA l i:=by
  rw[List.append_assoc,List.take_append_of_le_length (by simp;omega),List.take_take,Nat.min_eq_left (by omega),List.take_append_of_le_length (by simp;omega),List.take_of_length_le (by simp;omega)];rfl
 rw[e]at T2;exact T2
theorem um (w:World){o:Oper}{a:Act}{K:Act→World→Prop}{Q:Exit→Act→World→Prop}(d s:Operand)(t t':TypeId)
  (ho:o.op=.call {callee:=.builtin .copy,args:=#[d,s],argTypes:=#[t,t']})(v u:Value)(hd:a.eval d=v)(hs:a.eval s=u){v':Value}{w':World}
  (hr:(Builtin.copy_ #[t,t'] o.type #[v,u]).run Tryz.prog w=.ok v' w')(h:K (a.put o.dst v') w'):o.wp Tryz.prog a w K Q:=by
 unfold Oper.wp execOp;simp only[ho,resolve,invoke,builtin,Sem.run_bind,Sem.run_pure,Result.andThen_ok,List.map_toArray,List.map_cons,List.map_nil,hd,hs,hr];exact h
theorem jW (w:World){ops:Array Oper}{rest:List Oper}{o:Oper}{a:Act}{Q:Exit→Act→World→Prop}(hgd:o.guard=none)(d s:Operand)(t t':TypeId)
  (ho:o.op=.call {callee:=.builtin .copy,args:=#[d,s],argTypes:=#[t,t']})(v u:Value)(hd:a.eval d=v)(hs:a.eval s=u){v':Value}{w':World}
  (hr:(Builtin.copy_ #[t,t'] o.type #[v,u]).run Tryz.prog w=.ok v' w')(h:wpList Tryz.prog ops Q rest (a.put o.dst v') w'):wpList Tryz.prog ops Q (o::rest) a w:=
 wpList_plain hgd fun _ hK=>um w d s t t' ho v u hd hs hr (hK _ _ h)
theorem lC {ops:Array Oper}{o:Oper}{a:Act}{w:World}{K:Act→World→Prop}{Q:Exit→Act→World→Prop}{E:Prop}
  (hg:o.guard=none)(d x:Operand)(dT sT:TypeId)(hop:o.op=Op.call {callee:=Callee.builtin Builtin.copy,args:=#[d,x],argTypes:=#[dT,sT]})
  (v u:Value)(hd:a.eval d=v)(hx:a.eval x=u){v':Value}{w':World}(hr:(Builtin.copy_ #[dT,sT] o.type #[v,u]).run Tryz.prog w=.ok v' w')(hK:K (a.put o.dst v') w'):
  if Region.wanted o (yielded ops a.tmps)=true then Oper.wp Tryz.prog o a w K Q else E:=by
 have hw:Region.wanted o (yielded ops a.tmps)=true:=by simp[Region.wanted,hg]
 rw[if_pos hw];unfold Oper.wp;simp[execOp,hop,resolve,invoke,builtin,hd,hx,hr,Result.andThen];exact hK
structure One (w:World) (b:Nat) (v:Int):Prop where
 blk:w.heap[b]?=some (.cells #[.int .u8 v] 5 (0,0))
theorem One.cell {w:World}{b:Nat}{v:Int}(h:One w b v):w.cell? ⟨b,0,none⟩=some (.int .u8 v):=by simp[World.cell?,h.blk]
theorem One.lt {w:World}{b:Nat}{v:Int}(h:One w b v):b<w.heap.size:=(Array.getElem?_eq_some_iff.1 h.blk).1
theorem One.get {w:World}{b:Nat}{v:Int}(h:One w b v)(j:Nat)(u:Value)(hj:[Value.int .u8 v][j]?=some u):w.cell? ⟨b,0+j,none⟩=some u:=by
 cases j with
 |zero=>simp at hj;subst hj;exact h.cell
 |succ j=>simp at hj
theorem eM.get {w:World}{g cap:Nat}{l:List Int}(h:eM w g cap l)(o j:Nat)(v:Value)(hj:((l.drop o).map (Value.int .u8))[j]?=some v):w.cell? ⟨g,o+j,none⟩=some v:=by
 rw[List.getElem?_map,List.getElem?_drop,Option.map_eq_some_iff]at hj
 obtain⟨x,hx,rfl⟩:=hj
 have hlt:=(List.getElem?_eq_some_iff.1 hx).1;rw[h.cell (o+j) hlt,List.getD_eq_getElem?_getD,hx];rfl
theorem uo:(Tryz.prog.info? 5).map (·.size)=some 1:=by kernel_rfl
theorem uq (w:World)(g cap i vb:Nat)(l:List Int)(v:Int)(h:eM w g cap l)(hi:i<l.length)(hroom:l.length+1≤cap)(H1:One w vb v)(hvb:vb≠g)(h0:0≤v)(h1:v≤255):
  Calls Tryz.prog 189 #[.slice (some ⟨g,0,none⟩) l.length cap,.int .i64 i,.slice (some ⟨vb,0,none⟩) 1 1] w (cD w g (l.take i++v::l.drop i)):=by
 have hm:=h.most
 obtain⟨tB,kB,hsb,hkB⟩:∃tB kB,w.shape? g=some (tB,kB)∧kB≠0:=by
  have:=h.room 0 (by omega)
  unfold World.cell? at this;unfold World.shape?;split at this<;>rename_i hh
  ·rename_i c t fz
   refine⟨t,c.size,by simp only[hh],fun h0=> ?_⟩
   simp[Array.getElem?_eq_none (show c.size≤0 by omega)]at this
  ·simp at this
 have hov:∀lb cb,(callFunc 209 #[.slice (some ⟨vb,0,none⟩) 1 1,.slice (some ⟨g,i+1,none⟩) lb cb]).run Tryz.prog w=.ok (.value (.bool false)) w:=fun lb cb=>by
  rw[run_callFunc_extern Tryz.func209 (by kernel_rfl) (by kernel_rfl) (by kernel_rfl) (e:=Extern.SlicesOverlaps.overlaps #[39,39] #[4]) (by kernel_rfl),
   Lib.run_overlaps_apart w 39 4 5 Tryz.underlying39 1 Tryz.sizeOf5 ⟨vb,0,none⟩ ⟨g,i+1,none⟩ 1 1 lb cb hvb 5 tB 1 kB (by simp[World.shape?,H1.blk]) hsb hkB (by simp[World.frozen?,H1.blk]) (by simp[World.frozen?,H1.blk])]
  rfl
 obtain⟨cs,hcs⟩:∃cs,cs=(l.drop i).map (Value.int .u8):=⟨_,rfl⟩
 have hdl:cs.length=l.length-i:=by rw[hcs];simp
 have hcp1:∀ty dc sc,(Builtin.copy_ #[39,39] ty #[.slice (some ⟨g,i+1,none⟩) (l.length-i) dc,.slice (some ⟨g,i,none⟩) (l.length+1-i) sc]).run Tryz.prog w.drew=.ok (goInt cs.length) (w.drew.setCells g (i+1) cs):=fun ty dc sc=>
  run_copy_cells w.drew _ _ ty 5 g (i+1) (l.length-i) dc ⟨g,i,none⟩ (l.length+1-i) sc cs Tryz.underlying39 uo (by rw[hdl];simp only[Nat.min_def];split<;>omega)
   (fun j u hj=>by rw[Addr.add_lit];rw[hcs]at hj;exact h.drew.get i j u hj)
   (fun j hj=>h.drew.room _ (by omega)) (fun j hj=>h.drew.iy _ (by omega)) (by rw[hcs];exact qQ _)
 obtain⟨W1,hW1⟩:∃W1,W1=w.drew.setCells g (i+1) cs:=⟨_,rfl⟩
 have T1:eM W1 g cap (l.take (i+1)++l.drop i++l.drop (i+1+(l.drop i).length)):=by
  rw[hW1,hcs];exact h.drew.put (i+1) _ (by omega) (by simp;omega) (h.wE.drop _)
 have B1:Below g w W1:=by rw[hW1];exact fe _ (Below.refl _ _).drew
 have O1:W1.cell? ⟨vb,0,none⟩=some (.int .u8 v):=by
  rw[hW1,World.cell?_setCells_out g _ _ _ _ (fun hh _=>absurd hh hvb)];exact H1.cell
 have hcp2:∀(W:World),(∀x,W.cell? x=W1.cell? x)→(∀x,W.frozen? x=W1.frozen? x)→∀ty dc,(Builtin.copy_ #[39,39] ty #[.slice (some ⟨g,i,none⟩) (l.length+1-i) dc,.slice (some ⟨vb,0,none⟩) 1 1]).run Tryz.prog W=.ok (goInt 1) (W.setCells g i [.int .u8 v]):=fun W hWc hWf ty dc=>
  run_copy_cells W _ _ ty 5 g i (l.length+1-i) dc ⟨vb,0,none⟩ 1 1 [.int .u8 v] Tryz.underlying39 uo (by simp only[Nat.min_def,List.length_cons,List.length_nil];split<;>omega)
   (fun j u hj=>by
    cases j with
    |zero=>simp at hj;subst hj;rw[Addr.add_lit,hWc];exact O1
    |succ j=>simp at hj)
   (fun j hj=>by rw[hWc];simp at hj;exact T1.room _ (by omega)) (fun j hj=>by rw[hWf];simp at hj;exact T1.iy _ (by omega)) (by intro u hu;simp at hu;subst hu;rfl)
 have HT:=hid T1;have HB:=hid B1;rw[←hW1]at hcp1;have hz2:¬((i:Int)=(l.length:Int)):=by omega
 have hin:i≤l.length:=by omega
 have hb2:¬(cap=i+1):=by omega
 have hb3:(i:Int)≤(l.length:Int)+1:=by omega
 have hb4:¬(cap=i):=by omega
 have hb1:(0:Int)≤(i:Int)+1:=by omega
 have hw1:IntKind.i64.wrap ((i:Int)+1)=(i:Int)+1:=by rw[IntKind.wrap_i64];omega
 have htn:((i:Int)+1).toNat=i+1:=by omega
 have hb5:(i:Int)+1≤(l.length:Int)+1:=by omega
 have HI:=hid hi;generalize hLn:l.length=L at*;clear T1 B1 O1 h hdl hcs hsb H1 hW1;go_in;go_wp2_with(simp only[hov])
 go_region_law(refine lC rfl _ _ 39 39 rfl _ _ (by simp[Act.eval,Act.put]) (by simp[Act.eval,Act.put]) (hcp1 _ _ _) ?_)
 go_wp2_with(at_builtin;refine jW _ rfl _ _ 39 39 rfl _ _ rfl rfl (hcp2 _ (fun _=>rfl) (fun _=>rfl) _ _) ?_)
 go_ret;have hi:=HI.out
 refine⟨g,cap,Nat.le_refl _,by rw[uh _ _ _ (by omega),hLn];rfl,?_,fe _ HB.out⟩
 have T2:=HT.out.put i [v] (by simp;omega) (by simp;omega) (fE h0 h1);have e:List.take i (List.take (i+1) l++List.drop i l++List.drop (i+1+(List.drop i l).length) l)++[v]++List.drop (i+[v].length) (List.take (i+1) l++List.drop i l++List.drop (i+1+(List.drop i l).length) l)=l.take i++v::l.drop i:=by
  have e1:List.drop (i+1+(List.drop i l).length) l=[]:=List.drop_of_length_le (by simp;omega);rw[e1,List.append_nil,List.take_append_of_le_length (by simp;omega),List.take_take,Nat.min_eq_left (by omega)];simp only[List.length_cons,List.length_nil,Nat.zero_add];have e2:List.drop (i+1) (List.take (i+1) l)=[]:=List.drop_of_length_le (by simp;omega);rw[List.drop_append_of_le_length (by simp;omega),e2]
  simp
 rw[e]at T2;exact T2
theorem Au (w:World)(vb:Nat)(v:Int)(H1:One w vb v):Src Tryz.prog 1 39 (.slice (some ⟨vb,0,none⟩) 1 1) 1 [.int .u8 v] w:=
 Src.ofSlice w Tryz.underlying39 ⟨vb,0,none⟩ 1 1 [.int .u8 v] rfl (fun j u hj=>by rw[Addr.add_lit];exact H1.get j u hj) (by intro u hu;simp at hu;subst hu;rfl)
theorem pX (w:World)(g cap vb:Nat)(l:List Int)(v:Int)(h:eM w g cap l)(hroom:l.length+1≤cap)(H1:One w vb v)(h0:0≤v)(h1:v≤255):
  Calls Tryz.prog 189 #[.slice (some ⟨g,0,none⟩) l.length cap,.int .i64 (l.length:Nat),.slice (some ⟨vb,0,none⟩) 1 1] w (cD w g (l++[v])):=by
 have hm:=h.most
 obtain⟨i0,hi0,hz0,hzs,hzb⟩:=lB
 have hsrc:Src Tryz.prog i0.size 39 (.slice (some ⟨vb,0,none⟩) 1 1) 1 [Value.int .u8 v] w:=by rw[hzs];exact Au w vb v H1
 have hsp:∀j,j<[Value.int .u8 v].length→(w.cell? ⟨g,0+l.length+j,none⟩).isSome=true:=fun j hj=>by simp at hj;exact h.room _ (by omega)
 have hfz:∀j,j<[Value.int .u8 v].length→w.frozen? ⟨g,0+l.length+j,none⟩=false:=fun j hj=>by simp at hj;exact h.iy _ (by omega)
 have T2:=h.put l.length [v] (Nat.le_refl _) (by simpa using hroom) (fE h0 h1);have e:List.take l.length l++[v]++List.drop (l.length+[v].length) l=l++[v]:=by
  rw[List.take_length,List.drop_of_length_le (by simp),List.append_nil]
 rw[e]at T2;have HT:=hid T2;have hrun:∀ty,(Builtin.append_ #[39,39] ty #[.slice (some ⟨g,0,none⟩) l.length cap,.slice (some ⟨vb,0,none⟩) 1 1]).run Tryz.prog w=.ok (.slice (some ⟨g,0,none⟩) (l.length+1) cap) (w.setCells g l.length [.int .u8 v]):=fun ty=>by
  have:=run_append_room_src (w:=w) 39 39 ty 5 i0 Tryz.underlying39 hi0 g 0 l.length cap _ 1 [.int .u8 v] hsrc hroom (by rw[hzs,Nat.mul_one];exact hsp) (by rw[hzs,Nat.mul_one];exact hfz)
  rw[hzs,Nat.mul_one,Nat.zero_add]at this;exact this
 generalize hLn:l.length=L at*;clear T2 h hsrc hsp hfz;go_in;go_wp2_with(at_builtin;refine Lib.wpList_append_run _ rfl _ _ _ _ rfl _ _ rfl rfl _ _ (hrun _) ?_)
 all_goals
  go_ret
  refine⟨g,cap,Nat.le_refl _,by rw[List.length_append,hLn];rfl,?_,fe _ (Below.refl _ _)⟩
  exact HT.out
theorem pY (w:World)(g cap vb:Nat)(l:List Int)(v:Int)(h:eM w g cap l)(hL:l.length≤1000)(hroom:cap<l.length+1)(H1:One w vb v)(h0:0≤v)(h1:v≤255):
  Calls Tryz.prog 189 #[.slice (some ⟨g,0,none⟩) l.length cap,.int .i64 (l.length:Nat),.slice (some ⟨vb,0,none⟩) 1 1] w (cD w g (l++[v])):=by
 obtain⟨i0,hi0,hz0,hzs,hzb⟩:=lB
 have hm:=h.most;have hle:=h.le;have hsrc:Src Tryz.prog i0.size 39 (.slice (some ⟨vb,0,none⟩) 1 1) 1 [.int .u8 v] w:=by rw[hzs];exact Au w vb v H1
 have hold:(Builtin.firstCells i0.size l.length (.slice (some ⟨g,0,none⟩) l.length cap)).run Tryz.prog w.drew=.ok (l.map (Value.int .u8)).toArray w.drew:=by
  rw[hzs];exact run_firstCells_some w.drew 1 l.length ⟨g,0,none⟩ l.length cap (l.map (Value.int .u8)) (by simp) (fun j u hj=>by rw[Addr.add_lit];exact h.drew.get 0 j u (by simpa using hj))
 have hrun:∀ty,(Builtin.append_ #[39,39] ty #[.slice (some ⟨g,0,none⟩) l.length cap,.slice (some ⟨vb,0,none⟩) 1 1]).run Tryz.prog w=_:=fun ty=>
  run_append_grow_src w 39 39 ty 5 i0 _ Tryz.underlying39 hi0 hz0 (some ⟨g,0,none⟩) l.length cap (l.map (Value.int .u8)) hold _ 1 [.int .u8 v] hsrc hroom (by omega) (by rw[hzb];exact growslice_fits hroom (by omega))
 have hge:l.length+1≤grownCap w (l.length+1) cap 5:=grownCap_ge w _ _ _;have hmx:=grownCap_le_maxLen w (l.length+1) cap 5 (by unfold maxLen;omega);have T2:=Aq w.drew (l++[v]) (grownCap w (l.length+1) cap 5-(l.length+1)) (h.wE.app (fE h0 h1)) (by unfold maxLen at hmx;simp;omega);have hg:=h.lt;generalize hG:grownCap w (l.length+1) cap 5=G at*;have HT:Hid (eM (w.drew.alloc (.cells ((l.map (Value.int .u8)++[Value.int .u8 v]).toArray++Builtin.zeroCells (Value.int .u8 0).cells (G-(l.length+1))) 5)) w.heap.size G (l++[v])):=by
  have e1:(l++[v]).length+(G-(l.length+1))=G:=by simp;omega
  rw[e1,List.map_append]at T2;exact T2
 generalize hLn:l.length=L at*;clear T2 h hsrc hold;go_in;go_wp2_with(at_builtin;refine Lib.wpList_append_run _ rfl _ _ _ _ rfl _ _ rfl rfl _ _ (hrun _) ?_)
 all_goals
  go_ret
  refine⟨w.heap.size,G,by omega,by rw[List.length_append,hLn];rfl,HT.out,(Below.refl _ _).drew.alloc (by simp;omega) _⟩
structure Sh where
 kind:Int
 fault:Int
 place:Int
 aV:Nat→Int
structure dQ where
 text:ByteArray
 aV:Nat→Int
structure Cr where
 text:ByteArray
 fault:Int
 place:Int
structure HS where
 tries:Nat
 hangs:Nat
 entry:Nat
 changes:Nat
 aa:Int
 kept:List dQ
 found:List Cr
 az:List (Bool×ByteArray)
 worked:Nat→Bool
def jl (x:Int):Prop:=x=0∨x=1∨x=2∨x=4∨x=8∨x=16∨x=32∨x=64∨x=128
theorem BS (c:Int)(h:0≤c):jl (dU c):=by
 unfold jl dU;repeat' split
 all_goals omega
theorem jl.bd {x:Int}(h:jl x):0≤x∧x≤255:=by
 unfold jl at h;omega
def hasB (a b:Int):Bool:=decide (a=b)&&decide (b≠0)
theorem Hp {a b:Int}(ha:jl a)(hb:jl b):(decide (bits .and .u8 a b=0))= !hasB a b:=by
 rcases ha with rfl|rfl|rfl|rfl|rfl|rfl|rfl|rfl|rfl<;>rcases hb with rfl|rfl|rfl|rfl|rfl|rfl|rfl|rfl|rfl<;>decide
theorem wu {a b:Int}(ha:jl a)(hb:jl b):bits .and .u8 a b=0↔hasB a b=false:=by
 have:=Hp ha hb
 cases h:hasB a b with
 |true=>rw [h]at this;simp at this;simp[this]
 |false=>rw [h]at this;simp at this;simp[this]
def jo (kept:List dQ)(aV:Nat→Int):Bool:=(List.range 64).any fun p=>decide (aV p≠0)&& !(kept.any fun k=>hasB (k.aV p) (aV p))
def dV (f p:Int)(c:Cr):Bool:=decide (c.fault=f)&&decide (c.place=p)
def aD (R:ByteArray→Sh)(h:HS)(s:ByteArray):HS×Int:=
 if(R s).kind=1 then
  if h.found.any (dV (R s).fault (R s).place)then({h with tries:=h.tries+1},0)
  else({h with tries:=h.tries+1,found:=h.found++[⟨s,(R s).fault,(R s).place⟩],az:=h.az++[(false,s)]},99)
 else if(R s).kind=2 then({h with tries:=h.tries+1,hangs:=h.hangs+1},0)
 else if 30≤h.kept.length∨jo h.kept (R s).aV=false then({h with tries:=h.tries+1},0)
 else({h with tries:=h.tries+1,kept:=h.kept++[⟨s,(R s).aV⟩],az:=h.az++[(true,s)]},113)
def HS.zero (aa:Int):HS:=⟨0,0,0,0,aa,[],[],[],fun _=>false⟩
def bX (R:ByteArray→Sh)(h:HS):List ByteArray→HS
 |[]=>h
 |s::l=>bX R (aD R h s).1 l
def bg (kept:List dQ)(p:Nat)(b:Int)(n:Nat):Bool:=hasB ((kept[n]?.map fun k=>k.aV p).getD 0) b
def iz (kept:List dQ)(n:Nat):Nat:=(kept[n]?.map fun k=>k.text.size).getD 0
def bF (kept:List dQ)(fits:Nat→Bool):Nat→Option Nat
 |0=>none
 |n+1=>match bF kept fits n with
  |none=>if fits n then some n else none
  |some b=>if fits n&&decide (iz kept n<iz kept b)then some n else some b
def gP (kept:List dQ)(p:Nat)(b:Int)(l:List Nat):List Nat:=
 if l.any (bg kept p b)then l else match bF kept (bg kept p b) kept.length with
  |none=>l
  |some n=>l++[n]
def eA (k:Nat):Int:=2^k
def bG (kept:List dQ)(p:Nat):Nat→List Nat→List Nat
 |0,l=>l
 |k+1,l=>gP kept p (eA k) (bG kept p k l)
def aR (kept:List dQ):Nat→List Nat
 |0=>[]
 |p+1=>bG kept p 8 (aR kept p)
def cu (kept:List dQ):List Nat:=aR kept 64
def bE (kept:List dQ):List Nat:=(List.range kept.length).filter fun n=>(cu kept).contains n
def gz (L:Nat):Nat:=if L=0 then 0 else 31*L-1+(if L<24 then L else 0)
def HS.text (h:HS)(n:Nat):ByteArray:=(h.kept[n]?.map fun k=>k.text).getD ⟨#[]⟩
def HS.small (h:HS):Nat:=if h.worked h.entry then 0 else gz (h.text h.entry).size
def HS.lq (h:HS):List Int×Int:=j8 (nums (h.text h.entry)) (nums (h.text (dr h.aa h.kept.length))) (sd h.aa)
def HS.aK (h:HS):ByteArray:=if h.changes<h.small then strOfNums ((cL (nums (h.text h.entry)) h.changes).getD [])else strOfNums h.lq.1
def HS.aG (h:HS):Int:=if h.changes<h.small then h.aa else h.lq.2
def bZ (n:Nat)(l:List Nat):Nat:=(l.find? fun m=>decide (n<m)).getD (l.headD 0)
def HS.fK (h:HS):HS:={h with worked:=fun i=>if i=h.entry then true else h.worked i,entry:=bZ h.entry (bE h.kept),changes:=0}
def HS.one (R:ByteArray→Sh)(h:HS):HS:=
 let h1:=(aD R {h with aa:=h.aG} h.aK).1
 let h2:={h1 with changes:=h1.changes+1}
 if h2.changes=h2.small+16 then h2.fK else h2
def HS.go (R:ByteArray→Sh)(h:HS):Nat→HS
 |0=>h
 |n+1=>HS.one R (HS.go R h n)
def oB (n:Int):Int:=[48,49,50,51,52,53,54,55,56,57,97,98,99,100,101,102].getD n.toNat 0
def ei:List Int→List Int
 |[]=>[]
 |x::l=>oB (x/16)::oB (x%16)::ei l
def cI (b:Bool)(s:ByteArray):List Int:=(if b then 113 else 99)::32::ei (nums s)++[10]
def gQ:List (Bool×ByteArray)→List Int
 |[]=>[]
 |x::l=>cI x.1 x.2++gQ l
theorem BG {inp:ByteArray}{c aY:Nat→Int}{L:Nat}{S:Nat→Prop}{fuel:Int}{ρ:RR}{τ:RS}(hG:Good c L S)(hI:Inv L S fuel τ)(h:Rel inp ρ τ)(he:τ.σ.ended=false):
  Rel inp (fD inp c aY fuel ρ) (cW c aY fuel τ):=by
 have Al:=h.alive he;have hst:=hI.start he
 obtain⟨hpL,hk20⟩:=hG.lt _ hst
 have hk:(c τ.σ.next.toNat).toNat≤20:=by omega
 obtain⟨s1,s2,s3⟩:=bS _ hk
 have hb:=hG.byte τ.σ.next.toNat (by omega)
 obtain⟨n0,n1⟩:=fM hG hst
 have hh:=Al.here;unfold fD cW;rw[hh];have h1:Rel inp (eV (aY τ.σ.next.toNat) ρ)
   {σ:=τ.σ,cnt:=if aY τ.σ.next.toNat= -1 then τ.cnt else fW τ.cnt τ.ah (aY τ.σ.next.toNat),ah:=if aY τ.σ.next.toNat= -1 then τ.ah else aY τ.σ.next.toNat+1}:=by
  unfold eV;by_cases e:aY τ.σ.next.toNat= -1
  ·rw[if_pos e,if_pos e,if_pos e]
   exact⟨h.alive,h.cnt,h.ah,h.kind,h.fault,h.steps,h.out,h.over,h.place⟩
  ·rw[if_neg e,if_neg e,if_neg e]
   exact⟨fun _=>⟨Al.stack,Al.cells,Al.LH,Al.LI,Al.input,Al.here,Al.num,Al.LX⟩,by show fW ρ.cnt ρ.ah _=_;rw[h.cnt,h.ah],rfl,h.kind,h.fault,h.steps,h.out,h.over,h.place⟩
 generalize eV (aY τ.σ.next.toNat) ρ=ρ1 at h1
 generalize(if aY τ.σ.next.toNat= -1 then τ.cnt else fW τ.cnt τ.ah (aY τ.σ.next.toNat))=cn at h1
 generalize(if aY τ.σ.next.toNat= -1 then τ.ah else aY τ.σ.next.toNat+1)=ah at h1
 have A1:=h1.alive he;unfold mq;by_cases e20:(c τ.σ.next.toNat).toNat=20
 ·rw[if_pos e20,if_pos e20]
  exact⟨fun _=>⟨A1.stack,A1.cells,A1.LH,A1.LI,A1.input,rfl,A1.num,A1.LX⟩,h1.cnt,h1.ah,h1.kind,h1.fault,h1.steps,h1.out,h1.over,fun e=>by rw[he]at e;cases e⟩
 rw[if_neg e20,if_neg e20];have hfs:=hI.steps;have hst2:=h.steps;by_cases es:τ.σ.steps=fuel
 ·rw[if_pos (show fuel≤ρ.steps by omega),if_pos (show({τ.σ with place:=τ.σ.next}:St).steps=fuel from es)]
  exact⟨(fun e=>by cases e),h1.cnt,h1.ah,rfl,rfl,h1.steps,h1.out,rfl,fun _=>A1.here⟩
 rw[if_neg (show ¬fuel≤ρ.steps by omega),if_neg (show ¬({τ.σ with place:=τ.σ.next}:St).steps=fuel from es)];unfold p8;have hstk:=A1.stack;rw[hstk];by_cases er:bT τ.σ.stack.length (aX ((c τ.σ.next.toNat).toNat*3+1)) (aX ((c τ.σ.next.toNat).toNat*3+2))≠0
 ·rw[if_pos er,if_pos er]
  exact⟨(fun e=>by cases e),h1.cnt,h1.ah,rfl,rfl,by show ρ1.steps+1=τ.σ.steps+1;rw[h1.steps],h1.out,rfl,fun _=>A1.here⟩
 rw[if_neg er,if_neg er];exact JH h1 he _ _ (by omega) n0 n1 hI.out
def r0:RR:=⟨[],fun _=>0,0,0,fun _=>0,0,0,0,0,ByteArray.empty,0,false⟩
theorem BH (inp:ByteArray):Rel inp r0 (jm inp):=
 ⟨fun _=>⟨rfl,rfl,Int.le_refl _,by show(0:Int)≤_;omega,by
  show inp=inp.extract (0:Int).toNat inp.size;apply DX;show inp.data.toList=(inp.extract 0 inp.size).data.toList;rw[Lib.extract_to_end];rfl,rfl,(fun x hx=>by cases hx),fun _=>by show(0:Int)≤0∧(0:Int)≤65535;omega⟩,rfl,rfl,rfl,rfl,rfl,rfl,rfl,fun e=>by cases e⟩

end Go.Proofs.YtmpgjkhchfcjlaaGreatDoor
