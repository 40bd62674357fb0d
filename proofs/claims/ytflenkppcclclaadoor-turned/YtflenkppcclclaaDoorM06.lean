import Derived.Test.YtflenkppcclclaaDoorM00
namespace Go.Proofs.YtflenkppcclclaaDoor
open Go.RowKit

/-! The seed's step: linear over the field of two elements; no seed but 0 comes back within 14 steps. -/
def nextB (v : BitVec 64) : BitVec 64 :=
  let a := v ^^^ (v >>> 12)
  let b := a ^^^ (a <<< 25)
  b ^^^ (b >>> 27)

structure Lin (f : BitVec 64 → BitVec 64) : Prop where
  add : ∀ u v, f (u ^^^ v) = f u ^^^ f v
theorem Lin.zero {f} (h : Lin f) : f 0#64 = 0#64 := by
  have := h.add 0#64 0#64
  simp at this
  exact this
theorem x4 (a b c d : BitVec 64) : (a ^^^ b) ^^^ (c ^^^ d) = (a ^^^ c) ^^^ (b ^^^ d) := by
  rw [BitVec.xor_assoc, ← BitVec.xor_assoc b c d, BitVec.xor_comm b c, BitVec.xor_assoc c b d, ← BitVec.xor_assoc a c]
theorem lin_id : Lin fun v => v := ⟨fun _ _ => rfl⟩
theorem Lin.xor {f g} (hf : Lin f) (hg : Lin g) : Lin fun v => f v ^^^ g v := ⟨fun u v => by rw [hf.add, hg.add, x4]⟩
theorem Lin.comp {f g} (hf : Lin f) (hg : Lin g) : Lin fun v => f (g v) := ⟨fun u v => by rw [hg.add, hf.add]⟩
theorem lin_shr (n : Nat) : Lin fun v => v >>> n := ⟨fun u v => by simp [BitVec.ushiftRight_xor_distrib]⟩
theorem lin_shl (n : Nat) : Lin fun v => v <<< n := ⟨fun u v => by simp [BitVec.shiftLeft_xor_distrib]⟩
theorem lin_next : Lin nextB :=
  (lin_id.xor (lin_shr 27)).comp ((lin_id.xor (lin_shl 25)).comp (lin_id.xor (lin_shr 12)))
def iterB : Nat → BitVec 64 → BitVec 64
  | 0, v => v
  | n + 1, v => nextB (iterB n v)
theorem lin_iter : ∀ n, Lin (iterB n)
  | 0 => lin_id
  | n + 1 => lin_next.comp (lin_iter n)
theorem iterB_add (m : Nat) (v : BitVec 64) : ∀ n, iterB (m + n) v = iterB n (iterB m v)
  | 0 => rfl
  | n + 1 => by show nextB (iterB (m + n) v) = nextB (iterB n (iterB m v)); rw [iterB_add m v n]
theorem iterB_mul {m : Nat} {v : BitVec 64} (h : iterB m v = v) : ∀ n, iterB (m * n) v = v
  | 0 => rfl
  | n + 1 => by rw [Nat.mul_succ, iterB_add, iterB_mul h n, h]

def low (n : Nat) (v : BitVec 64) : BitVec 64 := (v.setWidth n).setWidth 64
theorem low_all (v : BitVec 64) : low 64 v = v := by simp [low]
theorem low_zero (v : BitVec 64) : low 0 v = 0#64 := by
  apply BitVec.eq_of_getLsbD_eq
  intro i hi
  simp [low, BitVec.getLsbD_setWidth]
theorem low_succ (n : Nat) (hn : n < 64) (v : BitVec 64) : low (n + 1) v = low n v ^^^ (if v.getLsbD n then BitVec.twoPow 64 n else 0#64) := by
  apply BitVec.eq_of_getLsbD_eq
  intro i hi
  have hv : v[i] = v.getLsbD i := (BitVec.getLsbD_eq_getElem hi).symm
  cases h : v.getLsbD n
  · simp [low, BitVec.getLsbD_setWidth, hi]
    by_cases e : i = n
    · subst e; simp [hv, h]
    · have e' : (i < n + 1) ↔ (i < n) := by omega
      simp [e']
  · simp [low, BitVec.getLsbD_setWidth, hi]
    by_cases e : i = n
    · subst e; simp [hv, h]
    · have e' : (i < n + 1) ↔ (i < n) := by omega
      simp [e, e']

/-- The sum of those of a list's numbers whose bits are set. -/
def sumB (c : List Nat) (v : BitVec 64) : Nat → BitVec 64
  | 0 => 0#64
  | n + 1 => sumB c v n ^^^ (if v.getLsbD n then BitVec.ofNat 64 (c.getD n 0) else 0#64)
theorem lin_sum (c : List Nat) : ∀ n, Lin fun v => sumB c v n
  | 0 => ⟨fun _ _ => by simp [sumB]⟩
  | n + 1 => ⟨fun u v => by
      show sumB c (u ^^^ v) n ^^^ _ = (sumB c u n ^^^ _) ^^^ (sumB c v n ^^^ _)
      rw [(lin_sum c n).add, x4, BitVec.getLsbD_xor]
      congr 1
      cases u.getLsbD n <;> cases v.getLsbD n <;> simp⟩
theorem lin_eq {f g : BitVec 64 → BitVec 64} (hf : Lin f) (hg : Lin g) (h : ∀ n, n < 64 → f (BitVec.twoPow 64 n) = g (BitVec.twoPow 64 n)) (v : BitVec 64) : f v = g v := by
  have key : ∀ n, n ≤ 64 → f (low n v) = g (low n v) := by
    intro n
    induction n with
    | zero => intro _; rw [low_zero, hf.zero, hg.zero]
    | succ n ih =>
      intro hn
      rw [low_succ n (by omega), hf.add, hg.add, ih (by omega)]
      congr 1
      cases v.getLsbD n
      · simp [hf.zero, hg.zero]
      · simp [h n (by omega)]
  have := key 64 (Nat.le_refl _)
  rwa [low_all] at this
/-- A map with a table that undoes it leads nothing but 0 to 0. -/
theorem undone {f : BitVec 64 → BitVec 64} (hf : Lin f) (c : List Nat) (h : ∀ n, n < 64 → sumB c (f (BitVec.twoPow 64 n)) 64 = BitVec.twoPow 64 n) {v : BitVec 64} (hv : f v = 0#64) : v = 0#64 := by
  have e := lin_eq ((lin_sum c 64).comp hf) lin_id h v
  have e' : sumB c (f v) 64 = v := e
  rw [hv, (lin_sum c 64).zero] at e'
  exact e'.symm
def undo0 : List Nat := [1126174885437447, 2252349770874894, 4504699541749788, 9009399083499576, 18018798166999152, 36037596333998304, 72075192667996608, 144150385335993216, 288300770671986432, 576601541343972864, 1153203082687945729, 2306406165375891459, 4612812330751782919, 9225624661503565838, 549890080780, 1099780161560, 2199560323120, 4399120646240, 8798241292480, 17596482584960, 35192965169920, 70385930339840, 140771860679680, 281543721359361, 563087442718723, 1126174885437446, 2252349770874892, 5630874427187231, 11261748854374462, 22523497708748924, 45046995417497848, 90093990834995696, 180187981669991392, 360375963339982784, 720751926679965568, 1441503853359931137, 2883007706719862275, 5766015413439724551, 11532030826879449103, 4612812880641847311, 9225625761283694622, 2749450338348, 5498900676696, 10997801353392, 21995602706784, 43991205413568, 87982410827136, 175964821654272, 351929643308545, 703859286617090, 1407718573234181, 2815437146468363, 5630874292936726, 11261748585873452, 23649672057184351, 47299344114368702, 94598688228737404, 189197376457474808, 378394752914949616, 756789505829899232, 1513579011659798465, 3027158023319596930, 6054316046639193861, 12108632093278387723]
def undo8 : List Nat := [9151443281363697838, 9549341609837463980, 10087051611859391625, 9906476995244512254, 12708723736445366155, 13894916058851113137, 11575436697600085862, 12699197183852406035, 7365636199688634190, 4345926256562635322, 3715900557603314177, 4441448048640290172, 5064983069434727856, 16953685628602170789, 15214781217417016059, 9911741379315429430, 11941328843006695971, 8652881442054601255, 2177352632463351772, 8927807043362856961, 7187508130841061796, 10928173757501956135, 5852725308910477431, 15929772808426180445, 6065969777264137000, 6178343824665478958, 17330159074246351363, 955030993678898077, 8560816483126478073, 9965724070949020800, 1051769811625463904, 9754673818950105427, 5703314183610891059, 7914823091207267206, 9623983189421832264, 16998320783771171486, 13093634726943156005, 15892918068066033354, 4120322979859818745, 14441244065479686826, 12164850344966141997, 13842324482044895056, 14933085918443553496, 11495587643655301011, 10475289779382157146, 8131641174502356602, 2613200227902433011, 12516744177036310430, 17221385127186756186, 10647221162076977779, 8958711735780237654, 11249440522786515890, 13780474906657138241, 8165935156149845860, 7521896586221651331, 16987489131515746687, 1548241525134628763, 1472985086253760525, 6462785770140625348, 17947978665232514481, 631130299460367201, 4652099506853656161, 9060071574007255464, 12408895725435120704]
def undo9 : List Nat := [18369544132246517737, 11401582640414032439, 11458614892454087957, 16665761998856287391, 16378957499019832695, 17594796049518356504, 18012088376689906054, 4204897114809489674, 9394202770475943712, 11239249357228806815, 14293341459649961604, 4892851921830114989, 2526149862478288563, 3497866390050856939, 15897525010586988561, 5260736061404603801, 4079473358729238303, 17580465739811263891, 4702259074313857302, 12830896863243232273, 8781760372787748588, 16683154046724549670, 2120690026679500653, 12547479402152088398, 18031939551112960440, 12145861522044809337, 5784801502047198015, 5386347026641358502, 17413536102880161103, 660231508096056024, 15972913825489987850, 18341894244098760274, 16582472062049599188, 8043201707747029670, 9001542212986060275, 12582939977532236214, 10063198121810093939, 10458748558544843710, 3946063600430175430, 7646155075349109170, 11722107189612300564, 13858230342107239564, 3427514683173889140, 9913085379641972390, 11895781049354161417, 12097921191632610859, 14812508966166352364, 18015673438476942185, 10784627310649604721, 6574869719356066383, 6107859589425312360, 4197156035002116391, 11803043263083722109, 7333913887728357023, 7995060132283298966, 9125972895314761633, 2611417039847585696, 6419135009945011283, 15283209209626723173, 15614368194228235848, 13793434183579068045, 1263836653851310106, 7623524795487205481, 16176932773469253095]
def undo10 : List Nat := [17522028592462702489, 10046849591968091513, 11929603801471103774, 10997676465444643194, 6863509823314638577, 3118780448964366030, 14752033533746153713, 17037287904641268097, 3621412995868435437, 5585068321541331330, 14052706814210261312, 1371935866214260805, 375785005723110308, 18105811724755187754, 1575672010749340768, 14569344861201980537, 10144989345551834716, 9927167795287368818, 16778261603824788560, 10792521318257757350, 2556489990166643061, 2696838277711345942, 16639580708245164358, 4219733080050809724, 18345438468136879202, 1049812893737496901, 4676287256855696353, 15748322092266693577, 10097169190501854036, 357924443511888340, 749197792013404019, 14626895430619800250, 1282431524375867635, 3152604821562878741, 12752580061441169664, 6683937906021386466, 14060076359808765222, 3383624611933687016, 16967108483837354313, 9570949394399086605, 11054286776771464804, 12858412913013143413, 17943971903375927020, 14949774482884694202, 7132599706957020213, 4714844985936877234, 7478023068448309735, 531957289689888818, 9998845893596879826, 2417729430030978467, 10077154927099934682, 3256796978583085168, 18388720833384011434, 2932042338620379165, 17555554068315196347, 15167608447271513399, 5454020221868640269, 8283032730500965826, 1950741137763034813, 9862775857166621971, 17797106434475614888, 13857142144113797727, 15067056959259971356, 2433578037036710972]
def undo11 : List Nat := [4575850232982498408, 7376346928201467071, 17452947185852173671, 12138805473364940485, 10407453057036367552, 13871777432627341806, 16342828715957316441, 9258894626718626560, 9716097391706914195, 6627435367796491857, 4137898985073083505, 8200568515745680572, 8429879116474818531, 2154046347175674492, 13808166509714349566, 11112224101433874774, 633460585890443042, 16643699099832856592, 9046184064386593805, 13651531860562187231, 5105909767068135861, 11367732131300211787, 9290167732122942613, 16731791637522150904, 16889436899147940915, 285422894717404910, 2864001902007249228, 7507760457550286531, 6279709724123422760, 17326332158334044010, 14879088063478543993, 9150151835538257720, 3464870469671441948, 117565589658081664, 1781876457423035279, 8525562530282594011, 12177533967642041142, 5938099777018306773, 15882655011873814969, 5764305352414223065, 13156023500320569181, 7659340700984703246, 4130589193697944623, 11546954391899652106, 2489833575763614311, 11640118306621320494, 9062448233257292537, 10340858608604567026, 14383117253030650295, 3885385723826591043, 11543932369597936506, 12472949952359132370, 12091308596233266115, 3359333569210667485, 2978845325239396629, 847453345070309777, 6341587277054249759, 9894044865715346762, 8879234557438443358, 15187378992195356034, 14986728406309316237, 14620029757303117129, 11337014149521056610, 14094786186941481379]
def undo12 : List Nat := [1903274757526954560, 7949481225175710609, 6057937977070701376, 12163125263977047156, 15269560904146313189, 7031329661745234408, 14644670767133209332, 1104909592637857603, 2076651434849135035, 15700323249175303520, 9977137904762716133, 7474856289609817531, 9258118376270540850, 8746046773587671750, 3773566382035149436, 2984846208477658196, 5980953933053970020, 17219473403123383280, 9409927645638077004, 9069838428594049842, 16825224528621927817, 18190939002886595899, 7551873157996746247, 3617709523602070910, 9392503910611390095, 11887467564194616935, 6618416465563894890, 11922732114786728874, 1548370347385285729, 2537560315622906315, 337102557530737360, 12120525785140806312, 1981020573628618860, 622096687793414814, 14419061261550473116, 9366344657707686202, 4278432896734059929, 7204438980483738416, 3686129688462561852, 16470439647298657341, 13610835703605204331, 5827796359726337705, 13278236019437371056, 10948899393755177903, 12981114138209712568, 11130903951238959457, 5495248413581117424, 784876129962436529, 11918763640532167700, 806107314366978924, 10347023107920032599, 10626014079655459674, 17514023224412998452, 16019836046595009373, 4232514299951368914, 13055932120328118238, 13263477114163674209, 4981011491467981853, 11719933677808388930, 7123042449956357870, 12676529494905149097, 16977120856566303145, 5964376440544861653, 4156106959374502383]
def undo13 : List Nat := [13300309550648996886, 6818648562474036781, 9259073220403007266, 15812353823027243716, 15005917875914589789, 5145520236207697070, 6265976382597127164, 1479006238846770840, 14085969654943191968, 3942334872445509561, 9150737599760101645, 13471144211069896587, 10682225831534119170, 17710105241931838133, 12241153238735915867, 15096778419674189874, 12417900384323106039, 8540439451923945154, 11319090911315354438, 18445104486134680403, 14749121753540270579, 4892976410144902623, 5927504117225996676, 4526820053682898140, 7233851885814776200, 11879352384283980119, 7916943997574619980, 8163882107967541715, 5383317192944693711, 17041415635812981522, 258779630180166014, 15258193155755431262, 2737359890550436309, 12816695047351726863, 17339935655661906486, 14380601258082835849, 14385268819614667988, 2793602057356427112, 10452366519552255325, 17353201958624269231, 10613744654566783922, 9554759039429189167, 2656137437805473808, 4207987005470034180, 16035643843452067418, 8800752481143119178, 18124600842531539635, 14714369908288659469, 17456083232427361799, 768544452544941225, 9603896591792319477, 4634117134918311895, 15953082672637992961, 17299470628713469404, 17060484702337103904, 1621753227206940466, 4531964203147981686, 7843691465056656982, 8762690265485677772, 3379560624463530938, 17785154289726595896, 2442855043457500427, 13234521406251963997, 881949220893742436]
def undo14 : List Nat := [6311849663809648929, 17153699639417577480, 7514858853075360450, 10140285607397255315, 8076889795887844113, 15333598501417782295, 14046093710112340366, 9223639735005610160, 10847129121330740941, 2748308515268751554, 1315539453653748228, 10954464418463417340, 11610237085248033331, 11823706397222587752, 293213138771643535, 11156372180380969441, 8069813894709767563, 15673215618013802758, 3243915322268596593, 285456738294319713, 14132599024666761571, 4954042431820504351, 6184471767188497632, 1951500848927995341, 3497434335539317198, 11637608814011300052, 2737788750189176067, 10115859963263567153, 14887820722172223806, 5154834899390406771, 13969364581723344160, 6435949460716753413, 4181179099958371607, 4256281538207081491, 17266818114429387012, 17470232163354572447, 6241724746200619306, 2621578397320402445, 3574552754306287394, 12930356677629680999, 11793586491880736811, 1933759800290684445, 7911729744503093432, 10001967795545350903, 13536372569576584602, 13751128053528641067, 17525718889302720835, 6627985920606174570, 5976477770894924520, 1163823883974019324, 3017865159843981390, 5599450717299765467, 2875860359827139009, 2104838830213056349, 17386850691809365243, 793717276217434725, 12278351099908186476, 16844634048358004006, 51561761967467495, 6857910285915673885, 15636913526827214358, 8169035179141653099, 1655033407382726530, 7556824560600375432]
theorem next_undone : ∀ n, n < 64 → sumB undo0 (nextB (BitVec.twoPow 64 n)) 64 = BitVec.twoPow 64 n := by decide +kernel
theorem undone8 : ∀ n, n < 64 → sumB undo8 (iterB 8 (BitVec.twoPow 64 n) ^^^ BitVec.twoPow 64 n) 64 = BitVec.twoPow 64 n := by decide +kernel
theorem undone9 : ∀ n, n < 64 → sumB undo9 (iterB 9 (BitVec.twoPow 64 n) ^^^ BitVec.twoPow 64 n) 64 = BitVec.twoPow 64 n := by decide +kernel
theorem undone10 : ∀ n, n < 64 → sumB undo10 (iterB 10 (BitVec.twoPow 64 n) ^^^ BitVec.twoPow 64 n) 64 = BitVec.twoPow 64 n := by decide +kernel
theorem undone11 : ∀ n, n < 64 → sumB undo11 (iterB 11 (BitVec.twoPow 64 n) ^^^ BitVec.twoPow 64 n) 64 = BitVec.twoPow 64 n := by decide +kernel
theorem undone12 : ∀ n, n < 64 → sumB undo12 (iterB 12 (BitVec.twoPow 64 n) ^^^ BitVec.twoPow 64 n) 64 = BitVec.twoPow 64 n := by decide +kernel
theorem undone13 : ∀ n, n < 64 → sumB undo13 (iterB 13 (BitVec.twoPow 64 n) ^^^ BitVec.twoPow 64 n) 64 = BitVec.twoPow 64 n := by decide +kernel
theorem undone14 : ∀ n, n < 64 → sumB undo14 (iterB 14 (BitVec.twoPow 64 n) ^^^ BitVec.twoPow 64 n) 64 = BitVec.twoPow 64 n := by decide +kernel
theorem next_zero {v : BitVec 64} (h : nextB v = 0#64) : v = 0#64 := undone lin_next undo0 next_undone h
theorem iter_zero {v : BitVec 64} : ∀ n, iterB n v = 0#64 → v = 0#64
  | 0, h => h
  | n + 1, h => iter_zero n (next_zero h)
theorem same_zero {n : Nat} {c : List Nat} (h : ∀ m, m < 64 → sumB c (iterB n (BitVec.twoPow 64 m) ^^^ BitVec.twoPow 64 m) 64 = BitVec.twoPow 64 m) {v : BitVec 64} (hv : iterB n v = v) : v = 0#64 :=
  undone ((lin_iter n).xor lin_id) c h (by show iterB n v ^^^ v = 0#64; rw [hv]; simp)
/-- No seed but 0 comes back within 14 steps. -/
theorem no_return {v : BitVec 64} (hv : v ≠ 0#64) (n : Nat) (h1 : 1 ≤ n) (h2 : n ≤ 14) : iterB n v ≠ v := by
  intro h
  apply hv
  match n, h1, h2 with
  | 1, _, _ => exact same_zero undone8 (iterB_mul h 8)
  | 2, _, _ => exact same_zero undone8 (iterB_mul h 4)
  | 3, _, _ => exact same_zero undone9 (iterB_mul h 3)
  | 4, _, _ => exact same_zero undone8 (iterB_mul h 2)
  | 5, _, _ => exact same_zero undone10 (iterB_mul h 2)
  | 6, _, _ => exact same_zero undone12 (iterB_mul h 2)
  | 7, _, _ => exact same_zero undone14 (iterB_mul h 2)
  | 8, _, _ => exact same_zero undone8 h
  | 9, _, _ => exact same_zero undone9 h
  | 10, _, _ => exact same_zero undone10 h
  | 11, _, _ => exact same_zero undone11 h
  | 12, _, _ => exact same_zero undone12 h
  | 13, _, _ => exact same_zero undone13 h
  | 14, _, _ => exact same_zero undone14 h
  | n + 15, _, h => omega
end Go.Proofs.YtflenkppcclclaaDoor

namespace Go.Proofs.YtflenkppcclclaaDoor
open Go.RowKit

def toB (x : Int) : BitVec 64 := BitVec.ofInt 64 x
theorem toB_xor (a b : Int) : toB (bits .xor .u64 a b) = toB a ^^^ toB b := by
  have e : bits .xor .u64 a b = IntKind.u64.wrap ((BitVec.ofInt 64 a ^^^ BitVec.ofInt 64 b).toNat : Int) := rfl
  have hlt := (BitVec.ofInt 64 a ^^^ BitVec.ofInt 64 b).isLt
  have e2 : IntKind.u64.wrap ((BitVec.ofInt 64 a ^^^ BitVec.ofInt 64 b).toNat : Int) = ((BitVec.ofInt 64 a ^^^ BitVec.ofInt 64 b).toNat : Int) := by
    rw [IntKind.wrap_u64]; omega
  rw [e, e2]
  unfold toB
  rw [BitVec.ofInt_natCast, BitVec.ofNat_toNat, BitVec.setWidth_eq]
theorem toB_nat (n : Nat) : toB (n : Int) = BitVec.ofNat 64 n := BitVec.ofInt_natCast _ _
theorem toB_shr (x : Int) (h0 : 0 ≤ x) (h1 : x ≤ 18446744073709551615) (k : Nat) : toB (x / (2 ^ k : Nat)) = toB x >>> k := by
  obtain ⟨n, rfl⟩ : ∃ n : Nat, x = n := ⟨x.toNat, by omega⟩
  rw [← Int.natCast_ediv, toB_nat, toB_nat]
  apply BitVec.eq_of_toNat_eq
  rw [BitVec.toNat_ushiftRight, BitVec.toNat_ofNat, BitVec.toNat_ofNat, Nat.shiftRight_eq_div_pow, Nat.mod_eq_of_lt (a := n) (by omega), Nat.mod_eq_of_lt]
  exact Nat.lt_of_le_of_lt (Nat.div_le_self _ _) (by omega)
theorem toB_shl (x : Int) (h0 : 0 ≤ x) (k : Nat) : toB (IntKind.u64.wrap (x * (2 ^ k : Nat))) = toB x <<< k := by
  obtain ⟨n, rfl⟩ : ∃ n : Nat, x = n := ⟨x.toNat, by omega⟩
  have e : IntKind.u64.wrap ((n : Int) * (2 ^ k : Nat)) = ((n * 2 ^ k % 2 ^ 64 : Nat) : Int) := by
    rw [IntKind.wrap_u64, ← Int.natCast_mul]
    omega
  rw [e, toB_nat, toB_nat]
  apply BitVec.eq_of_toNat_eq
  rw [BitVec.toNat_shiftLeft, BitVec.toNat_ofNat, BitVec.toNat_ofNat, Nat.shiftLeft_eq, Nat.mod_mod, Nat.mod_mul_mod]
theorem bits_range (a b : Int) : 0 ≤ bits .xor .u64 a b ∧ bits .xor .u64 a b ≤ 18446744073709551615 := by
  have := wf_bits .xor .u64 a b
  simp [Lit.wf, IntKind.min, IntKind.max, IntKind.signed, IntKind.bits] at this
  omega
theorem toB_next (x : Int) (h0 : 0 ≤ x) (h1 : x ≤ 18446744073709551615) : toB (nextI x) = nextB (toB x) := by
  unfold nextI nextB
  obtain ⟨a, ha⟩ : ∃ a, bits .xor .u64 x (x / 4096) = a := ⟨_, rfl⟩
  have ea : toB a = toB x ^^^ toB x >>> 12 := by rw [← ha, toB_xor, ← toB_shr x h0 h1 12]; rfl
  have ba := bits_range x (x / 4096)
  rw [ha] at ba ⊢
  obtain ⟨b, hb⟩ : ∃ b, bits .xor .u64 a (IntKind.u64.wrap (a * 33554432)) = b := ⟨_, rfl⟩
  have eb : toB b = toB a ^^^ toB a <<< 25 := by rw [← hb, toB_xor, ← toB_shl a ba.1 25]; rfl
  have bb := bits_range a (IntKind.u64.wrap (a * 33554432))
  rw [hb] at bb ⊢
  have ec : toB (bits .xor .u64 b (b / 134217728)) = toB b ^^^ toB b >>> 27 := by rw [toB_xor, ← toB_shr b bb.1 bb.2 27]; rfl
  rw [ec, eb, ea]
theorem toB_zero {x : Int} (h0 : 0 ≤ x) (h1 : x ≤ 18446744073709551615) (h : toB x = 0#64) : x = 0 := by
  obtain ⟨n, rfl⟩ : ∃ n : Nat, x = n := ⟨x.toNat, by omega⟩
  rw [toB_nat] at h
  have := congrArg BitVec.toNat h
  rw [BitVec.toNat_ofNat, Nat.mod_eq_of_lt (by omega)] at this
  simp at this
  omega
theorem nextI_bd (x : Int) : 0 ≤ nextI x ∧ nextI x ≤ 18446744073709551615 := by unfold nextI; exact bits_range _ _

/-- A seed that stands for itself. -/
structure Seedy (x : Int) (v : BitVec 64) : Prop where
  lo : 0 ≤ x
  hi : x ≤ 18446744073709551615
  ne : v ≠ 0#64
  is : toB x = v
theorem Seedy.ne' {x : Int} {v : BitVec 64} (s : Seedy x v) : x ≠ 0 := by
  rintro rfl
  exact s.ne (s.is.symm.trans (by decide))
theorem Seedy.next {x : Int} {v : BitVec 64} (s : Seedy x v) : Seedy (sd x) (nextB v) := by
  have e : sd x = nextI x := by unfold sd; rw [if_neg s.ne']
  rw [e]
  exact ⟨(nextI_bd x).1, (nextI_bd x).2, fun h => s.ne (next_zero h), by rw [toB_next x s.lo s.hi, s.is]⟩
/-- What a seed counts as. -/
def asB (x : Int) : BitVec 64 := toB (if x = 0 then 88172645463325252 else x)
theorem sd_first (x : Int) (h0 : 0 ≤ x) (h1 : x ≤ 18446744073709551615) : asB x ≠ 0#64 ∧ Seedy (sd x) (iterB 1 (asB x)) := by
  have hb : 0 ≤ (if x = 0 then 88172645463325252 else x) ∧ (if x = 0 then 88172645463325252 else x) ≤ 18446744073709551615 ∧ (if x = 0 then 88172645463325252 else x) ≠ 0 := by split <;> omega
  have hne : asB x ≠ 0#64 := fun h => hb.2.2 (toB_zero hb.1 hb.2.1 h)
  refine ⟨hne, ?_⟩
  unfold sd
  exact ⟨(nextI_bd _).1, (nextI_bd _).2, fun h => hne (next_zero h), toB_next _ hb.1 hb.2.1⟩
theorem Seedy.cast {x : Int} {v u : BitVec 64} (s : Seedy x v) (h : v = u) : Seedy x u := h ▸ s
theorem once_seed {l o : List Int} {x : Int} {v : BitVec 64} {k : Nat} (s : Seedy x (iterB k v)) : ∃ m, k + 1 ≤ m ∧ m ≤ k + 3 ∧ Seedy (onceL l o x).2 (iterB m v) := by
  have s1 : Seedy (sd x) (iterB (k + 1) v) := s.next
  have s2 : Seedy (sd (sd x)) (iterB (k + 2) v) := s1.next
  have s3 : Seedy (sd (sd (sd x))) (iterB (k + 3) v) := s2.next
  have r1 : ∃ m, k + 1 ≤ m ∧ m ≤ k + 3 ∧ Seedy (sd x) (iterB m v) := ⟨k + 1, by omega, by omega, s1⟩
  have r2 : ∃ m, k + 1 ≤ m ∧ m ≤ k + 3 ∧ Seedy (sd (sd x)) (iterB m v) := ⟨k + 2, by omega, by omega, s2⟩
  have r3 : ∃ m, k + 1 ≤ m ∧ m ≤ k + 3 ∧ Seedy (sd (sd (sd x))) (iterB m v) := ⟨k + 3, by omega, by omega, s3⟩
  unfold onceL
  dsimp only
  split
  · exact r1
  split
  · exact r2
  split
  · exact r3
  split
  · exact r2
  split
  · split
    · exact r1
    · exact r3
  split
  · exact r3
  · exact r3
theorem times_seed {l o : List Int} {x : Int} {v : BitVec 64} {k : Nat} (s : Seedy x (iterB k v)) : ∀ n, ∃ m, k + n ≤ m ∧ m ≤ k + 3 * n ∧ Seedy (timesL l o x n).2 (iterB m v)
  | 0 => ⟨k, by omega, by omega, s⟩
  | n + 1 => by
    obtain ⟨m, h1, h2, h3⟩ := times_seed (l := l) (o := o) s n
    obtain ⟨m', h1', h2', h3'⟩ := once_seed (l := (timesL l o x n).1) (o := o) h3
    exact ⟨m', by omega, by omega, h3'⟩
theorem wild_seed (l o : List Int) (x : Int) (h0 : 0 ≤ x) (h1 : x ≤ 18446744073709551615) : ∃ m, 2 ≤ m ∧ m ≤ 13 ∧ asB x ≠ 0#64 ∧ Seedy (wildL l o x).2 (iterB m (asB x)) := by
  obtain ⟨hne, s⟩ := sd_first x h0 h1
  obtain ⟨n, hn⟩ : ∃ n, dr x 4 = n := ⟨_, rfl⟩
  have hlt := dr_lt x 4 (by omega)
  rw [hn] at hlt
  obtain ⟨m, a, b, c⟩ := times_seed (l := l) (o := o) s (1 + n)
  unfold wildL
  rw [hn]
  exact ⟨m, by omega, by omega, hne, c⟩
/-- The seed behind a wild change: not 0, and not what it was. -/
theorem wild_moves (l o : List Int) (x : Int) (h0 : 0 ≤ x) (h1 : x ≤ 18446744073709551615) : (wildL l o x).2 ≠ 0 ∧ (wildL l o x).2 ≠ x ∧ 0 ≤ (wildL l o x).2 ∧ (wildL l o x).2 ≤ 18446744073709551615 := by
  obtain ⟨m, hm1, hm2, hne, s⟩ := wild_seed l o x h0 h1
  refine ⟨s.ne', fun e => ?_, s.lo, s.hi⟩
  by_cases hx : x = 0
  · exact s.ne' (e.trans hx)
  · have ea : asB x = toB x := by unfold asB; rw [if_neg hx]
    have := s.is
    rw [e, ← ea] at this
    exact no_return hne m (by omega) (by omega) this.symm
theorem wild_len {l o : List Int} (hl : l.length ≤ 24) (ho : o.length ≤ 24) (x : Int) : (wildL l o x).1.length ≤ 24 ∧ (wildL l o x).1.length ≤ l.length + 4 * (o.length + 1) := by
  obtain ⟨n, hn⟩ : ∃ n, dr x 4 = n := ⟨_, rfl⟩
  have hlt := dr_lt x 4 (by omega)
  rw [hn] at hlt
  have := times_len hl ho (sd x) (1 + n)
  unfold wildL
  rw [hn]
  refine ⟨this.1, Nat.le_trans this.2 ?_⟩
  have : (1 + n) * (o.length + 1) ≤ 4 * (o.length + 1) := Nat.mul_le_mul_right _ (by omega)
  omega
theorem wild_byt {l o : List Int} (hl : Byt l) (ho : Byt o) (x : Int) : Byt (wildL l o x).1 := by unfold wildL; exact times_byt hl ho _ _
end Go.Proofs.YtflenkppcclclaaDoor

