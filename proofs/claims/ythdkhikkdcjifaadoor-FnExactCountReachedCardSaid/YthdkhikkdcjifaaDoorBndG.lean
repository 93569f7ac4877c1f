/- Short words of rolls: through every cell at most once to a block of six cells, and in such a block. The bound on the number of shortest words. No Go in sight. -/
import Derived.Test.YthdkhikkdcjifaaDoorBnd
namespace Go.Proofs.YthdkhikkdcjifaaDoor
set_option maxRecDepth 100000
set_option linter.all false

/-! ### A word that comes to a cell of a kind -/
theorem va_take {fl : Cl → Bool} {c : Cl} {u : W4} (i : Nat) (h : vaW fl c u = true) : vaW fl c (u.take i) = true ∧ vaW fl (ecW c (u.take i)) (u.drop i) = true := by
  have := vaW_append fl (u.take i) (u.drop i) c
  rw [List.take_append_drop, h] at this
  simpa using this.symm
theorem ec_split (c : Cl) (u : W4) (i : Nat) : ecW c u = ecW (ecW c (u.take i)) (u.drop i) := by
  rw [← ecW_append, List.take_append_drop]
theorem short_way (fl blk : Cl → Bool) (R : List Cl) : ∀ (N : Nat) (u : W4) (c : Cl), u.length ≤ N → (∀ i, i ≤ u.length → ecW c (u.take i) ∈ R) → vaW fl c u = true → blk (ecW c u) = true → ∃ v : W4, vaW fl c v = true ∧ blk (ecW c v) = true ∧ v.length ≤ (R.filter (fun x => !blk x)).length
  | 0, u, c, hN, _, hv, hb => ⟨u, hv, hb, by omega⟩
  | N + 1, u, c, hN, hR, hv, hb => by
    by_cases hL : u.length ≤ (R.filter (fun x => !blk x)).length
    · exact ⟨u, hv, hb, hL⟩
    by_cases hin : ∃ i, i < u.length ∧ blk (ecW c (u.take i)) = true
    · obtain ⟨i, hi, hbi⟩ := hin
      refine short_way fl blk R N (u.take i) c (by rw [List.length_take]; omega) (fun k hk => ?_) (va_take i hv).1 hbi
      rw [List.length_take] at hk
      rw [List.take_take]
      exact hR _ (by omega)
    have hout : ∀ i, i < u.length → blk (ecW c (u.take i)) = false := fun i hi => by
      cases e : blk (ecW c (u.take i))
      · rfl
      · exact absurd ⟨i, hi, e⟩ hin
    by_cases hinj : ∀ i, i < u.length → ∀ j, j < u.length → ecW c (u.take i) = ecW c (u.take j) → i = j
    · exfalso
      apply hL
      rw [← List.length_range (n := u.length), ← List.length_map (f := fun i => ecW c (u.take i)) (as := List.range u.length)]
      refine nodup_le _ _ (nodup_mapB _ _ List.nodup_range (fun i hi j hj e => hinj i (List.mem_range.1 hi) j (List.mem_range.1 hj) e)) (fun x hx => ?_)
      obtain ⟨i, hi, rfl⟩ := List.mem_map.1 hx
      have hi := List.mem_range.1 hi
      refine List.mem_filter.2 ⟨hR i (by omega), ?_⟩
      show (!blk (ecW c (u.take i))) = true
      rw [hout i hi]
      rfl
    have hcut : ∃ i j, i < j ∧ j < u.length ∧ ecW c (u.take i) = ecW c (u.take j) := by
      refine Classical.byContradiction fun hno => hinj fun i hi j hj e => ?_
      rcases Nat.lt_trichotomy i j with h | h | h
      · exact absurd ⟨i, j, h, hj, e⟩ hno
      · exact h
      · exact absurd ⟨j, i, h, hi, e.symm⟩ hno
    obtain ⟨i, j, hij, hj, e⟩ := hcut
    have hlen : (u.take i ++ u.drop j).length ≤ N := by
      rw [List.length_append, List.length_take, List.length_drop]
      omega
    refine short_way fl blk R N (u.take i ++ u.drop j) c hlen (fun k hk => ?_) ?_ ?_
    · rw [List.take_append, List.length_take]
      by_cases hki : k ≤ i
      · rw [List.take_take, show k - min i u.length = 0 by omega]
        simp only [List.take_zero, List.append_nil]
        exact hR _ (by omega)
      · rw [List.take_of_length_le (l := u.take i) (by rw [List.length_take]; omega), ecW_append, e, ← ecW_append]
        have : u.take j ++ (u.drop j).take (k - min i u.length) = u.take (j + (k - min i u.length)) := by rw [List.take_add]
        rw [this]
        rw [List.length_append, List.length_take, List.length_drop] at hk
        exact hR _ (by omega)
    · rw [vaW_append, (va_take i hv).1, e, (va_take j hv).2]
      rfl
    · rw [ecW_append, e, ← ec_split]
      exact hb

/-! ### In a block of six cells -/
def blkA : List Cl := [(0, 0), (1, 0), (0, 1), (1, 1), (0, 2), (1, 2)]
def blkB : List Cl := [(0, 0), (1, 0), (2, 0), (0, 1), (1, 1), (2, 1)]
def wdOf : Nat → Nat → W4
  | 0, _ => []
  | f + 1, n => if n % 5 = 0 then [] else (Fin.ofNat 4 (n % 5 - 1)) :: wdOf f (n / 5)
def tgts (bk : List Cl) (a : Cl) : List (Cl × D) := bk.flatMap (fun b => (ways.filter (fun p => clsG b p == clsG a unitD)).map (fun p => (b, p)))
def okW (bk : List Cl) (a : Cl) (x : (Cl × D) × Nat) : Bool := vaW (fun c => decide (c ∈ bk)) a (wdOf 12 x.2) && decide (ecW a (wdOf 12 x.2) = x.1.1) && decide (edW unitD (wdOf 12 x.2) = x.1.2)
def codesA : List (List Nat) := [[0, 3636788, 242, 332992, 4338, 4342, 335592, 335588, 5818, 145492, 538, 209745242, 20492, 2, 37068, 818, 23168038, 14432742, 35588, 1492, 926742, 23092, 38, 23088, 1683663, 1213, 3, 67367, 2413, 1507467, 2693, 1217, 117, 1507463, 760867, 45848617, 4867, 271443, 121163, 7467, 4667117, 7463, 17, 13, 6786117, 5413713, 193, 10867, 7543038, 18, 12068, 7366838, 7366842, 192332992, 588, 370242, 492, 11788, 366842, 592, 1443318, 33963992, 1742, 34710588, 68, 92, 26898092, 54338, 43038, 88, 54342, 57742],
  [21694, 868, 67118, 4, 18186548, 41949048, 29094, 2694, 48, 66598, 1677944, 29098, 0, 2886548, 177944, 194, 115444, 7118, 298, 4618, 185348, 4098, 185344, 115842798, 6069, 301493, 13469, 152173, 9169723, 13473, 243, 7537319, 23, 8420923, 19, 14673, 933423, 37319, 3, 973, 1082743, 2173, 1357223, 969, 608423, 1493, 69, 27068569, 1473368, 38466598, 2944, 45855298, 94, 118, 98, 73368, 60344, 46004618, 74048, 61548, 6792798, 18, 5379618, 10868, 11548, 136122848, 271694, 444, 217798, 6942118, 348, 344],
  [1, 67117, 727357, 1163, 1211, 1664961, 867, 2663, 1677961, 727461, 107, 41948607, 7413, 102461, 11, 163, 7, 4617, 115461, 4633607, 2886107, 4633711, 7117, 7461, 0, 336732, 242, 336836, 151732, 229243086, 301492, 482, 366788, 586, 538, 6086, 24336, 2, 54288, 33930586, 24232, 37336, 932982, 1492, 86, 1082742, 38, 1732, 1508607, 73607, 3, 2461, 2413, 1473367, 1538663, 46004617, 117, 2357, 1834211, 2961, 8711, 288663, 6792357, 6942117, 271711, 11107, 17, 13, 461, 8607, 5444913, 10867],
  [13423, 108471, 173, 21, 8389721, 5819, 13319, 3637309, 8389809, 9, 145471, 13471, 1, 923, 577309, 37069, 889721, 971, 577221, 1423, 59, 819, 926721, 23168559, 30346, 37686596, 60298, 4, 67346, 30434, 1833944, 2694, 48, 1684184, 96, 2934, 0, 186684, 186596, 194, 346, 135342846, 298, 216548, 434, 121684, 271444, 4846, 14721, 294673, 7693319, 9171059, 14809, 12309, 9200923, 471, 23, 301721, 19, 14673, 1358559, 2221, 3, 43559, 1075923, 2173, 2309, 27224569, 1358471, 1388423, 69, 1721],
  [3636786, 6, 335586, 232, 536, 209743036, 3637306, 6056, 8324806, 336782, 4336, 532, 1482, 23168036, 512306, 14430536, 56, 32, 36, 23086, 24282, 23168556, 35586, 37306, 1, 2411, 1683661, 73357, 1211, 1684181, 758661, 42104607, 1507461, 2931, 107, 2407, 10857, 121681, 11, 3042107, 7, 8661, 5413711, 121161, 8657, 431, 4664911, 7461, 0, 7543036, 368036, 12306, 368032, 14806, 11786, 482, 370232, 586, 307732, 230023086, 43556, 2, 57732, 2306, 33961786, 34710586, 55532, 55536, 86, 43036, 1088982, 1732],
  [2684, 18186546, 542356, 41949046, 34, 106, 41948606, 29096, 66596, 46, 30284, 67356, 2886546, 6, 184, 185346, 186534, 115842796, 4096, 4448606, 4856, 296, 2886106, 284, 12059, 151731, 3793309, 21, 481, 14671, 8420921, 14659, 152171, 9, 9169721, 13471, 1, 43309, 933421, 2171, 932981, 971, 1731, 23324559, 59, 608421, 1357221, 2159, 73606, 2356, 58934, 4, 38466596, 45855296, 74046, 61546, 1840184, 61534, 96, 2934, 0, 6792796, 11106, 217796, 346, 8606, 277684, 215184, 434, 217784, 11546, 136122846]]
def codesB : List (List Nat) := [[0, 6212, 242, 342788, 13712, 8421442, 152692, 152688, 15192, 155288, 538, 95432742, 30288, 2, 2692, 608942, 2688, 15186538, 1212, 1492, 1682742, 933942, 38, 607462, 4515192, 75152692, 186538, 7742, 288, 12, 120242, 192, 4513712, 2951212, 7462, 188, 3087, 60587, 3, 77163, 2413, 74567, 62067, 45855817, 117, 74563, 1514663, 46604617, 14663, 12067, 587, 6793317, 5420913, 216837, 17, 13, 7542117, 12063, 218317, 10867, 26324567, 2163, 33812067, 998087, 54337, 42117, 33810587, 87, 43313, 67, 54617, 63],
  [2742, 1684288, 30538, 4, 1242, 19086548, 3038, 2694, 48, 1713944, 1683992, 1899048, 0, 94652742, 242, 194, 121492, 121788, 298, 186788, 336548, 151444, 538, 7492, 1444, 2, 24048, 903038, 15030538, 944, 902742, 1492, 601242, 1548, 38, 590242, 12117, 14913, 12413, 7573319, 9320923, 385819, 9171163, 366867, 23, 617, 19, 14673, 45824617, 43367, 3, 73319, 2413, 2173, 1508423, 43663, 117, 1358663, 69, 54367, 10819, 8423, 6762117, 10923, 319, 199617, 17, 13, 210617, 5264913, 6762413, 10867],
  [8421444, 214243048, 15194, 336798, 9495244, 24, 13474, 9495248, 244, 548, 155298, 248, 24298, 608944, 1494, 4, 18930548, 1498, 1682744, 2694, 48, 974, 936548, 1682748, 0, 7748, 180548, 194, 118048, 4515194, 298, 7744, 120248, 7224, 120244, 75155298, 46604619, 1929099, 45858423, 2423, 77173, 73369, 119, 99, 62069, 48227423, 73373, 123, 8673, 10869, 7542119, 349, 10873, 366599, 218319, 6795923, 23, 9164923, 19, 14673, 1599, 39923, 3, 54099, 42119, 2173, 42123, 33812069, 1352423, 54619, 69, 26327173],
  [1, 30537, 3037, 75961, 1211, 68557, 68561, 42107211, 763461, 31057, 107, 42099807, 13461, 6057, 11, 3044711, 7, 186787, 4669711, 537, 3037307, 187307, 6061, 7461, 22575961, 961, 22568557, 968037, 37307, 38711, 57, 61, 23607, 14756061, 37311, 37, 0, 15436, 302936, 15432, 302932, 9171682, 14912, 482, 372836, 586, 310336, 229279086, 2932, 2, 60336, 1359182, 2936, 33966586, 1084182, 1084186, 86, 2412, 1091586, 1732, 5265432, 131622836, 432, 4990436, 273086, 12, 336, 271686, 7982, 8662, 4990432, 436],
  [6107, 13711, 336857, 21, 8419961, 379809, 8569721, 6211, 3817309, 9, 607, 13471, 1, 37357, 42068607, 67309, 1211, 971, 607461, 24357, 59, 757221, 107, 37461, 4809, 7221, 11, 180607, 7, 193607, 309, 3006107, 4721, 3006211, 4513711, 7461, 60586, 1834336, 2982, 4, 2482, 37866596, 1864184, 1929096, 1834232, 3086, 96, 2934, 0, 229123086, 216836, 366596, 346, 271836, 271732, 482, 434, 586, 301684, 8732, 54096, 2, 1684, 1053086, 33810586, 2184, 1596, 998086, 86, 1052982, 1352482, 1732],
  [42107221, 1899049, 42848609, 1221, 75971, 67359, 47476221, 121, 67371, 109, 31059, 49, 7471, 4859, 3044721, 21, 187309, 336549, 4871, 3786109, 299, 9, 8413721, 13471, 1, 38721, 1549, 24049, 36109, 971, 23609, 22575971, 59, 36121, 601221, 15031059, 9171684, 233023096, 9645496, 484, 14674, 24, 9645484, 15434, 366846, 310346, 596, 496, 1734, 1359184, 54346, 4, 37710596, 1746, 2174, 1832996, 1091596, 1832984, 96, 2934, 0, 7996, 7984, 270496, 346, 5265434, 273096, 210596, 434, 270484, 8424, 169060346]]
def allOk (bk : List Cl) (cs : List (List Nat)) : Bool := (bk.zip cs).all (fun y => decide ((tgts bk y.1).length = y.2.length) && ((tgts bk y.1).zip y.2).all (okW bk y.1))
theorem allA : allOk blkA codesA = true := by decide +kernel
theorem allB : allOk blkB codesB = true := by decide +kernel
theorem wdOf_len : ∀ f n, (wdOf f n).length ≤ f
  | 0, _ => Nat.le_refl _
  | f + 1, n => by
    unfold wdOf
    split
    · simp
    · rw [List.length_cons]
      have := wdOf_len f (n / 5)
      omega
theorem zip_mem {α β : Type} : ∀ {l : List α} {m : List β} {x : α}, l.length = m.length → x ∈ l → ∃ y, (x, y) ∈ l.zip m
  | [], _, _, _, h => absurd h (by simp)
  | a :: l, [], _, hl, _ => by simp at hl
  | a :: l, b :: m, x, hl, h => by
    rcases List.mem_cons.1 h with rfl | h
    · exact ⟨b, by simp⟩
    · obtain ⟨y, hy⟩ := zip_mem (l := l) (m := m) (by simpa using hl) h
      exact ⟨y, by rw [List.zip_cons_cons]; exact List.mem_cons_of_mem _ hy⟩
theorem in_blk {bk : List Cl} {cs : List (List Nat)} (hl : bk.length = cs.length) (h : allOk bk cs = true) {a b : Cl} (ha : a ∈ bk) (hb : b ∈ bk) {p : D} (hp : p ∈ ways) (hc : clsG b p = clsG a unitD) : ∃ v : W4, v.length ≤ 12 ∧ vaW (fun c => decide (c ∈ bk)) a v = true ∧ ecW a v = b ∧ edW unitD v = p := by
  obtain ⟨c, hac⟩ := zip_mem hl ha
  have h1 := List.all_eq_true.1 h _ hac
  rw [Bool.and_eq_true, decide_eq_true_eq] at h1
  have ht : (b, p) ∈ tgts bk a := List.mem_flatMap.2 ⟨b, hb, List.mem_map.2 ⟨p, List.mem_filter.2 ⟨hp, by rw [hc]; exact beq_self_eq_true _⟩, rfl⟩⟩
  obtain ⟨n, hn⟩ := zip_mem h1.1 ht
  have h2 := List.all_eq_true.1 h1.2 _ hn
  unfold okW at h2
  rw [Bool.and_eq_true, Bool.and_eq_true, decide_eq_true_eq, decide_eq_true_eq] at h2
  exact ⟨wdOf 12 n, wdOf_len _ _, h2.1.1, h2.1.2, h2.2⟩

/-! ### From everywhere to everywhere, by a block -/
theorem pick_solve : ∀ p ∈ ways, ∀ q ∈ ways, ∃ r ∈ ways, pick p r = q := by decide +kernel
theorem ev_pick : ∀ p ∈ ways, ∀ r ∈ ways, evD (pick p r) = (evD p == evD r) := by decide +kernel
def atC (o a : Cl) : Cl := (o.1 + a.1, o.2 + a.2)
theorem cls_pick {o a b : Cl} {p r : D} (hp : p ∈ ways) (hr : r ∈ ways) (h : clsG (atC o b) (pick p r) = clsG (atC o a) p) : clsG b r = clsG a unitD := by
  unfold clsG at h ⊢
  rw [ev_pick p hp r hr] at h
  have eu : evD unitD = true := by decide
  rw [eu]
  have pa : decide (((atC o a).1 + (atC o a).2) % 2 = 0) = (decide ((o.1 + o.2) % 2 = 0) == decide ((a.1 + a.2) % 2 = 0)) := by
    show decide ((o.1 + a.1 + (o.2 + a.2)) % 2 = 0) = _
    by_cases h1 : (o.1 + o.2) % 2 = 0 <;> by_cases h2 : (a.1 + a.2) % 2 = 0
    · rw [decide_eq_true h1, decide_eq_true h2, decide_eq_true (by omega)]; rfl
    · rw [decide_eq_true h1, decide_eq_false h2, decide_eq_false (by omega)]; rfl
    · rw [decide_eq_false h1, decide_eq_true h2, decide_eq_false (by omega)]; rfl
    · rw [decide_eq_false h1, decide_eq_false h2, decide_eq_true (by omega)]; rfl
  have pb : decide (((atC o b).1 + (atC o b).2) % 2 = 0) = (decide ((o.1 + o.2) % 2 = 0) == decide ((b.1 + b.2) % 2 = 0)) := by
    show decide ((o.1 + b.1 + (o.2 + b.2)) % 2 = 0) = _
    by_cases h1 : (o.1 + o.2) % 2 = 0 <;> by_cases h2 : (b.1 + b.2) % 2 = 0
    · rw [decide_eq_true h1, decide_eq_true h2, decide_eq_true (by omega)]; rfl
    · rw [decide_eq_true h1, decide_eq_false h2, decide_eq_false (by omega)]; rfl
    · rw [decide_eq_false h1, decide_eq_true h2, decide_eq_false (by omega)]; rfl
    · rw [decide_eq_false h1, decide_eq_false h2, decide_eq_true (by omega)]; rfl
  rw [pa, pb] at h
  revert h
  cases evD p <;> cases evD r <;> cases decide ((o.1 + o.2) % 2 = 0) <;> cases decide ((a.1 + a.2) % 2 = 0) <;> cases decide ((b.1 + b.2) % 2 = 0) <;> decide
theorem va_shift {fl : Cl → Bool} {bk : List Cl} {o : Cl} (hf : ∀ x ∈ bk, fl (atC o x) = true) : ∀ (v : W4) (a : Cl), vaW (fun c => decide (c ∈ bk)) a v = true → vaW fl (atC o a) v = true
  | [], _, _ => rfl
  | j :: v, a, h => by
    have h' : (mvC j a) ∈ bk ∧ vaW (fun c => decide (c ∈ bk)) (mvC j a) v = true := by
      have : (decide (mvC j a ∈ bk) && vaW (fun c => decide (c ∈ bk)) (mvC j a) v) = true := h
      simpa using this
    have e : mvC j (atC o a) = atC o (mvC j a) := mv_shift j o a
    show (fl (mvC j (atC o a)) && vaW fl (mvC j (atC o a)) v) = true
    rw [e, hf _ h'.1, va_shift hf v _ h'.2]
    rfl
section
variable {fl : Cl → Bool} {R : List Cl} {far : Cl → D → Option Nat} {c0 : Cl} {d0 : D}
theorem Geo.onR (h : Geo fl R far c0 d0) {c : Cl} {d : D} {n : Nat} (hf : far c d = some n) {u : W4} (hv : vaW fl c u = true) (i : Nat) : ecW c (u.take i) ∈ R := by
  obtain ⟨m, hm, _⟩ := h.run (u.take i) c d n hf (va_take i hv).1
  exact h.cells _ _ _ hm
theorem Geo.flR (h : Geo fl R far c0 d0) {c : Cl} (hc : c ∈ R) : fl c = true := by
  obtain ⟨d, n, hf⟩ := h.any c hc
  obtain ⟨u, _, hv, e, _⟩ := h.word c d n hf
  rw [← e]
  exact va_end fl u c0 h.home hv
/-- A word from a labelled state to a block. -/
theorem Geo.toBlk (h : Geo fl R far c0 d0) {bk : List Cl} {o : Cl} (hb : ∀ x ∈ bk, atC o x ∈ R) (hne : bk ≠ []) (hnd : (bk.map (atC o)).Nodup) {c : Cl} {d : D} {n : Nat} (hf : far c d = some n) : ∃ v : W4, vaW fl c v = true ∧ (∃ x ∈ bk, ecW c v = atC o x) ∧ v.length + bk.length ≤ R.length := by
  obtain ⟨x, hx⟩ := List.exists_mem_of_ne_nil bk hne
  obtain ⟨d1, n1, hf1⟩ := h.any _ (hb x hx)
  obtain ⟨u1, _, hv1, e1, _⟩ := h.word _ _ _ hf1
  obtain ⟨u2, _, hv2, e2, _⟩ := h.word _ _ _ hf
  have hr := va_rev fl u2 c0 h.home hv2
  have er : ecW (ecW c0 u2) (revW u2) = c0 := ec_rev u2 c0
  rw [e2] at hr er
  have hv : vaW fl c (revW u2 ++ u1) = true := by rw [vaW_append, hr, er, hv1]; rfl
  have he : ecW c (revW u2 ++ u1) = atC o x := by rw [ecW_append, er, e1]
  obtain ⟨v, a1, a2, a3⟩ := short_way fl (fun y => decide (y ∈ bk.map (atC o))) R _ (revW u2 ++ u1) c (Nat.le_refl _) (fun i _ => h.onR hf hv i) hv (decide_eq_true (by rw [he]; exact List.mem_map.2 ⟨x, hx, rfl⟩))
  refine ⟨v, a1, ?_, ?_⟩
  · obtain ⟨y, hy, e⟩ := List.mem_map.1 (of_decide_eq_true a2)
    exact ⟨y, hy, e.symm⟩
  · have hsum : (R.filter (fun y => !decide (y ∈ bk.map (atC o)))).length + (bk.map (atC o)).length ≤ R.length := by
      rw [← List.length_append]
      refine nodup_le _ _ (List.nodup_append.2 ⟨h.nodup.filter _, hnd, fun y hy z hz e => ?_⟩) (fun y hy => ?_)
      · subst e
        have := (List.mem_filter.1 hy).2
        simp only [Bool.not_eq_true', decide_eq_false_iff_not] at this
        exact this hz
      · rcases List.mem_append.1 hy with hy | hy
        · exact (List.mem_filter.1 hy).1
        · obtain ⟨z, hz, rfl⟩ := List.mem_map.1 hy
          exact hb z hz
    rw [List.length_map] at hsum
    omega
theorem Geo.near (h : Geo fl R far c0 d0) {bk : List Cl} {cs : List (List Nat)} {o : Cl} (hl : bk.length = cs.length) (hok : allOk bk cs = true) (hb : ∀ x ∈ bk, atC o x ∈ R) (hne : bk ≠ []) (hnd : (bk.map (atC o)).Nodup) {c : Cl} {d : D} {n : Nat} (hf : far c d = some n) : n + 2 * bk.length ≤ 2 * R.length + 12 := by
  obtain ⟨u, hu, hv, eu, ed⟩ := h.word c d n hf
  obtain ⟨v1, a1, ⟨x1, hx1, e1⟩, l1⟩ := h.toBlk hb hne hnd h.zero
  obtain ⟨v3, a3, ⟨x3, hx3, e3⟩, l3⟩ := h.toBlk hb hne hnd hf
  have w1 := edW_ways v1 unitD unit_ways
  have w3 := edW_ways v3 _ (edW_ways u unitD unit_ways)
  obtain ⟨r, hr, er⟩ := pick_solve _ w1 _ w3
  have k1 : clsG (atC o x1) (edW unitD v1) = clsG c0 unitD := by rw [← e1]; exact cls_word v1 c0 unitD unit_ways
  have k3 : clsG (atC o x3) (edW (edW unitD u) v3) = clsG c0 unitD := by
    rw [← e3, cls_word v3 c _ (edW_ways u unitD unit_ways), ← eu]
    exact cls_word u c0 unitD unit_ways
  obtain ⟨v2, l2, a2, e2, f2⟩ := in_blk hl hok hx1 hx3 hr (cls_pick (o := o) w1 hr (by rw [er, k3, k1]))
  have a2' := va_shift (fl := fl) (o := o) (fun x hx => h.flR (hb x hx)) v2 x1 a2
  have e2' : ecW (atC o x1) v2 = atC o x3 := by
    have := ec_shift v2 o x1
    rw [e2] at this
    exact this
  have hc : fl c = true := h.flR (h.cells _ _ _ hf)
  have a3' := va_rev fl v3 c hc a3
  have e3' := ec_rev v3 c
  rw [e3] at a3' e3'
  have hva : vaW fl c0 (v1 ++ (v2 ++ revW v3)) = true := by
    rw [vaW_append, vaW_append, a1, e1, a2', e2', a3']
    rfl
  have hec : ecW c0 (v1 ++ (v2 ++ revW v3)) = c := by rw [ecW_append, ecW_append, e1, e2', e3']
  have hed : edW d0 (v1 ++ (v2 ++ revW v3)) = d := by
    have g : edW unitD (v1 ++ (v2 ++ revW v3)) = edW unitD u := by
      rw [edW_append, edW_append, edW_unit (edW unitD v1) v2, f2, er]
      exact ed_rev v3 _
    rw [edW_unit d0, g, ← edW_unit, ed]
  obtain ⟨m, hm, hle⟩ := h.run _ c0 d0 0 h.zero hva
  rw [hec, hed, hf] at hm
  have := Option.some.inj hm
  simp only [List.length_append, revW_len] at hle
  omega
end
/-! ### A block lies in what is reached -/
theorem pigeon (bs : List (List Cl)) (rest R : List Cl) (hn : R.Nodup) (h6 : ∀ b ∈ bs, b.length = 6) (hs : ∀ c ∈ R, c ∈ bs.flatten ++ rest) (hbig : 5 * bs.length + rest.length < R.length) : ∃ b ∈ bs, ∀ x ∈ b, x ∈ R := by
  refine Classical.byContradiction fun hno => ?_
  have h5 : ∀ b ∈ bs, (b.filter (fun x => decide (x ∈ R))).length ≤ 5 := fun b hb => by
    have hle := List.length_filter_le (fun x => decide (x ∈ R)) b
    rw [h6 b hb] at hle
    by_cases h : (b.filter (fun x => decide (x ∈ R))).length = 6
    · exfalso
      apply hno
      refine ⟨b, hb, fun x hx => ?_⟩
      have := (List.length_filter_eq_length_iff.1 (h.trans (h6 b hb).symm)) x hx
      exact of_decide_eq_true this
    · omega
  have hf : ∀ (l : List (List Cl)), (∀ b ∈ l, b ∈ bs) → ((l.map (fun b => b.filter (fun x => decide (x ∈ R)))).flatten).length ≤ 5 * l.length := by
    intro l
    induction l with
    | nil => intro _; simp
    | cons b l ih =>
      intro hb
      rw [List.map_cons, List.flatten_cons, List.length_append, List.length_cons]
      have := ih (fun x hx => hb x (List.mem_cons_of_mem _ hx))
      have := h5 b (hb b (List.mem_cons_self ..))
      omega
  have hle : R.length ≤ ((bs.map (fun b => b.filter (fun x => decide (x ∈ R)))).flatten ++ rest).length := by
    refine nodup_le _ _ hn (fun c hc => ?_)
    rcases List.mem_append.1 (hs c hc) with h | h
    · obtain ⟨b, hb, hcb⟩ := List.mem_flatten.1 h
      refine List.mem_append_left _ (List.mem_flatten.2 ⟨_, List.mem_map.2 ⟨b, hb, rfl⟩, List.mem_filter.2 ⟨hcb, decide_eq_true hc⟩⟩)
    · exact List.mem_append_right _ h
  rw [List.length_append] at hle
  have := hf bs (fun b hb => hb)
  omega
def bsOf (l : List (Bool × Cl)) : List (List Cl) := l.map (fun x => (if x.1 then blkA else blkB).map (atC x.2))
def bs66 : List (Bool × Cl) := [(true, (0, 0)), (true, (2, 0)), (true, (4, 0)), (true, (0, 3)), (true, (2, 3)), (true, (4, 3))]
def bs57 : List (Bool × Cl) := [(true, (0, 0)), (true, (0, 3)), (false, (2, 0)), (false, (2, 2)), (false, (2, 4))]
def bs75 : List (Bool × Cl) := [(false, (0, 0)), (false, (3, 0)), (true, (0, 2)), (true, (2, 2)), (true, (4, 2))]
def gridC (W H : Nat) : List Cl := (List.range W).flatMap (fun (i : Nat) => (List.range H).map (fun (j : Nat) => (((i : Nat) : Int), ((j : Nat) : Int))))
theorem grid_len (W H : Nat) : (gridC W H).length = W * H := by
  have := prodL_len (List.range H) (List.range W)
  rw [List.length_range, List.length_range] at this
  rw [← this]
  unfold gridC prodL
  simp [List.length_flatMap]
theorem mem_grid {W H : Nat} {c : Cl} (h : 0 ≤ c.1 ∧ c.1 < W ∧ 0 ≤ c.2 ∧ c.2 < H) : c ∈ gridC W H := by
  refine List.mem_flatMap.2 ⟨c.1.toNat, List.mem_range.2 (by omega), List.mem_map.2 ⟨c.2.toNat, List.mem_range.2 (by omega), Prod.ext ?_ ?_⟩⟩
  · show ((c.1.toNat : Nat) : Int) = c.1; omega
  · show ((c.2.toNat : Nat) : Int) = c.2; omega
theorem cov66 : ∀ c ∈ gridC 6 6, c ∈ (bsOf bs66).flatten ++ [] := by decide +kernel
theorem cov57 : ∀ c ∈ gridC 5 7, c ∈ (bsOf bs57).flatten ++ [(0, 6), (1, 6), (2, 6), (3, 6), (4, 6)] := by decide +kernel
theorem cov75 : ∀ c ∈ gridC 7 5, c ∈ (bsOf bs75).flatten ++ [(6, 0), (6, 1), (6, 2), (6, 3), (6, 4)] := by decide +kernel
theorem six_all : ∀ l ∈ [bs66, bs57, bs75], ∀ b ∈ bsOf l, b.length = 6 := by decide +kernel
theorem has_blk {R : List Cl} {W H : Nat} (hn : R.Nodup) (hW : W ≤ 7) (hH : H ≤ 7) (hWH : W * H ≤ 36) (hR : ∀ c ∈ R, 0 ≤ c.1 ∧ c.1 < W ∧ 0 ≤ c.2 ∧ c.2 < H) (hbig : 31 ≤ R.length) : ∃ (t : Bool) (o : Cl), ∀ x ∈ (if t then blkA else blkB), atC o x ∈ R := by
  have hg : ∀ c ∈ R, c ∈ gridC W H := fun c hc => mem_grid (hR c hc)
  have hle := nodup_le _ _ hn hg
  rw [grid_len] at hle
  have key : ∀ (l : List (Bool × Cl)) (rest : List Cl), l ∈ [bs66, bs57, bs75] → (∀ c ∈ R, c ∈ (bsOf l).flatten ++ rest) → 5 * l.length + rest.length < R.length → ∃ (t : Bool) (o : Cl), ∀ x ∈ (if t then blkA else blkB), atC o x ∈ R := by
    intro l rest hl hs hb
    obtain ⟨b, hb1, hb2⟩ := pigeon (bsOf l) rest R hn (six_all l hl) hs (by unfold bsOf; rw [List.length_map]; exact hb)
    obtain ⟨y, _, rfl⟩ := List.mem_map.1 hb1
    exact ⟨y.1, y.2, fun x hx => hb2 _ (List.mem_map.2 ⟨x, hx, rfl⟩)⟩
  have hcase : (W = 6 ∧ H = 6) ∨ (W = 5 ∧ H = 7) ∨ (W = 7 ∧ H = 5) := by
    have h7 : W = 0 ∨ W = 1 ∨ W = 2 ∨ W = 3 ∨ W = 4 ∨ W = 5 ∨ W = 6 ∨ W = 7 := by omega
    rcases h7 with rfl | rfl | rfl | rfl | rfl | rfl | rfl | rfl <;> omega
  rcases hcase with ⟨rfl, rfl⟩ | ⟨rfl, rfl⟩ | ⟨rfl, rfl⟩
  · exact key bs66 [] (by simp) (fun c hc => cov66 c (hg c hc)) (by show 30 < _; omega)
  · exact key bs57 _ (by simp) (fun c hc => cov57 c (hg c hc)) (by show 30 < _; omega)
  · exact key bs75 _ (by simp) (fun c hc => cov75 c (hg c hc)) (by show 30 < _; omega)
theorem atC_inj (o : Cl) {a b : Cl} (h : atC o a = atC o b) : a = b := by
  have h1 := congrArg (·.1) h
  have h2 := congrArg (·.2) h
  simp only [atC] at h1 h2
  exact Prod.ext (by omega) (by omega)
theorem pow_two (a b : Nat) (h : a ≤ b + b) : 3 ^ a ≤ 3 ^ b * 3 ^ b := by
  rw [← Nat.pow_add]
  exact Nat.pow_le_pow_right (by decide) h
/-- Fewer shortest words than an int holds lead to a cell at one distance. -/
theorem Geo.bound {fl : Cl → Bool} {R : List Cl} {far : Cl → D → Option Nat} {c0 : Cl} {d0 : D} (h : Geo fl R far c0 d0) {W H : Nat} (hW : W ≤ 7) (hH : H ≤ 7) (hWH : W * H ≤ 36) (hR : ∀ c ∈ R, 0 ≤ c.1 ∧ c.1 < W ∧ 0 ≤ c.2 ∧ c.2 < H) {ws : List W4} (hnd : ws.Nodup) (n : Nat) (e : Cl) (hw : ∀ w ∈ ws, isPath fl far c0 d0 w ∧ w.length = n) (he : ∀ w ∈ ws, ecW c0 w = e) : ws.length < 2 ^ 64 := by
  have hRle : R.length ≤ 36 := by
    have := nodup_le _ _ h.nodup (fun c hc => mem_grid (hR c hc))
    rw [grid_len] at this
    omega
  by_cases hn : n < 2
  · have hsmall : ws.length ≤ ([[], [0], [1], [2], [3]] : List W4).length := by
      refine nodup_le _ _ hnd (fun w hw' => ?_)
      have hl := (hw w hw').2
      match w, hl with
      | [], _ => simp
      | [x], _ => rcases four x with rfl | rfl | rfl | rfl <;> simp
      | x :: y :: r, hl => simp only [List.length_cons] at hl; omega
    exact Nat.lt_of_le_of_lt hsmall (by decide)
  have t := h.three hnd n e hw he (by omega)
  have hsum := sum_vG (R := R) (far := far) (c0 := c0) (d0 := d0) n
  refine Nat.lt_of_not_le fun hbig => ?_
  have hc := Nat.mul_le_mul (Nat.mul_le_mul hbig hbig) hbig
  have hc2 := Nat.le_trans hc t
  by_cases hR30 : R.length ≤ 30
  · have p3 := pi_three (vG R far c0 d0) n
    have p4 : 3 ^ suV (vG R far c0 d0) n ≤ (3 ^ 180) * (3 ^ 180) := pow_two _ 180 (by omega)
    have hx := Nat.mul_le_mul (Nat.mul_le_mul hc2 hc2) hc2
    have hy : 2 * piV (vG R far c0 d0) n * (2 * piV (vG R far c0 d0) n) * (2 * piV (vG R far c0 d0) n) = 8 * (piV (vG R far c0 d0) n * piV (vG R far c0 d0) n * piV (vG R far c0 d0) n) := by
      generalize piV (vG R far c0 d0) n = q
      rw [show 8 = 2 * 2 * 2 from rfl]
      ac_rfl
    rw [hy] at hx
    have hz := Nat.le_trans hx (Nat.mul_le_mul_left 8 (Nat.le_trans p3 p4))
    revert hz
    decide +kernel
  · obtain ⟨tt, o, hb⟩ := has_blk h.nodup hW hH hWH hR (by omega)
    have hn72 : n ≤ 72 := by
      cases hws : ws with
      | nil => rw [hws] at hbig; exact absurd hbig (by decide)
      | cons w l =>
        have hp := (hw w (by rw [hws]; simp)).1.2
        rw [(hw w (by rw [hws]; simp)).2] at hp
        cases tt
        · have := h.near (cs := codesB) (o := o) rfl allB hb (by decide) (nodup_mapB _ _ (by decide) (fun a _ b _ e => atC_inj o e)) hp
          have e6 : blkB.length = 6 := rfl
          omega
        · have := h.near (cs := codesA) (o := o) rfl allA hb (by decide) (nodup_mapB _ _ (by decide) (fun a _ b _ e => atC_inj o e)) hp
          have e6 : blkA.length = 6 := rfl
          omega
    have p6 := pi_six' (vG R far c0 d0) n 72 432 rfl hn72 (by omega)
    have hz := Nat.le_trans hc2 (Nat.mul_le_mul_left 2 p6)
    revert hz
    decide +kernel
end Go.Proofs.YthdkhikkdcjifaaDoor
