/- Words of rolls over cells: what they do to cells and dice. Mathematics for the bound on the number of shortest words. No Go in sight. Short words of rolls: through every cell at most once to a block of six cells, and in such a block. The bound on the number of shortest words. No Go in sight. -/
import Derived.Test.YthdkhikkdcjifaaDoorPure
namespace Go.Proofs.YthdkhikkdcjifaaDoor
set_option maxRecDepth 100000
set_option linter.all false

abbrev Cl := Int × Int
abbrev W4 := List (Fin 4)
def mvC (j : Fin 4) (c : Cl) : Cl := if j = 0 then (c.1, c.2 - 1) else if j = 1 then (c.1 + 1, c.2) else if j = 2 then (c.1, c.2 + 1) else (c.1 - 1, c.2)
def rlD (j : Fin 4) (d : D) : D := rollK (j.val : Int) d
def ecW (c : Cl) (u : W4) : Cl := u.foldl (fun c j => mvC j c) c
def edW (d : D) (u : W4) : D := u.foldl (fun d j => rlD j d) d
/-- All cells behind the first one are floor. -/
def vaW (fl : Cl → Bool) : Cl → W4 → Bool
  | _, [] => true
  | c, j :: u => fl (mvC j c) && vaW fl (mvC j c) u
def opp (j : Fin 4) : Fin 4 := j + 2
def revW (u : W4) : W4 := (u.map opp).reverse

theorem four : ∀ j : Fin 4, j = 0 ∨ j = 1 ∨ j = 2 ∨ j = 3 := by decide
theorem ecW_nil (c : Cl) : ecW c [] = c := rfl
theorem ecW_cons (c : Cl) (j : Fin 4) (u : W4) : ecW c (j :: u) = ecW (mvC j c) u := rfl
theorem edW_cons (d : D) (j : Fin 4) (u : W4) : edW d (j :: u) = edW (rlD j d) u := rfl
theorem ecW_append (c : Cl) (u v : W4) : ecW c (u ++ v) = ecW (ecW c u) v := by unfold ecW; rw [List.foldl_append]
theorem edW_append (d : D) (u v : W4) : edW d (u ++ v) = edW (edW d u) v := by unfold edW; rw [List.foldl_append]
theorem vaW_append (fl : Cl → Bool) : ∀ (u v : W4) (c : Cl), vaW fl c (u ++ v) = (vaW fl c u && vaW fl (ecW c u) v)
  | [], v, c => by simp [vaW, ecW_nil]
  | j :: u, v, c => by
    show (fl (mvC j c) && vaW fl (mvC j c) (u ++ v)) = _
    rw [vaW_append fl u v, ecW_cons]
    show _ = ((fl (mvC j c) && vaW fl (mvC j c) u) && _)
    rw [Bool.and_assoc]
theorem rlD_map (f : Int → Int) (j : Fin 4) (d : D) : rlD j (mapD f d) = mapD f (rlD j d) := by
  rcases four j with rfl | rfl | rfl | rfl <;> rfl
theorem edW_map (f : Int → Int) : ∀ (u : W4) (d : D), edW (mapD f d) u = mapD f (edW d u)
  | [], _ => rfl
  | j :: u, d => by rw [edW_cons, edW_cons, rlD_map, edW_map f u]
theorem edW_pick (d p : D) (u : W4) : edW (pick d p) u = pick d (edW p u) := edW_map _ u p
theorem edW_unit (d : D) (u : W4) : edW d u = pick d (edW unitD u) := by
  have := edW_pick d unitD u
  rwa [pick_unit] at this
theorem rlD_ways : ∀ p ∈ ways, ∀ j : Fin 4, rlD j p ∈ ways := by decide +kernel
theorem edW_ways : ∀ (u : W4) (p : D), p ∈ ways → edW p u ∈ ways
  | [], _, h => h
  | j :: u, p, h => edW_ways u (rlD j p) (rlD_ways p h j)
theorem unit_ways : unitD ∈ ways := by decide
theorem mv_opp (j : Fin 4) (c : Cl) : mvC (opp j) (mvC j c) = c := by
  rcases four j with rfl | rfl | rfl | rfl
  · show (c.1, c.2 - 1 + 1) = c; rw [Int.sub_add_cancel]
  · show (c.1 + 1 - 1, c.2) = c; rw [Int.add_sub_cancel]
  · show (c.1, c.2 + 1 - 1) = c; rw [Int.add_sub_cancel]
  · show (c.1 - 1 + 1, c.2) = c; rw [Int.sub_add_cancel]
theorem rl_opp (j : Fin 4) (d : D) : rlD (opp j) (rlD j d) = d := by
  rcases four j with rfl | rfl | rfl | rfl <;> rfl
theorem revW_cons (j : Fin 4) (u : W4) : revW (j :: u) = revW u ++ [opp j] := by simp [revW]
theorem revW_len (u : W4) : (revW u).length = u.length := by simp [revW]
theorem ec_rev : ∀ (u : W4) (c : Cl), ecW (ecW c u) (revW u) = c
  | [], _ => rfl
  | j :: u, c => by
    rw [revW_cons, ecW_append]
    show mvC (opp j) (ecW (ecW (mvC j c) u) (revW u)) = c
    rw [ec_rev u]
    exact mv_opp j c
theorem ed_rev : ∀ (u : W4) (d : D), edW (edW d u) (revW u) = d
  | [], _ => rfl
  | j :: u, d => by
    rw [revW_cons, edW_append]
    show rlD (opp j) (edW (edW (rlD j d) u) (revW u)) = d
    rw [ed_rev u]
    exact rl_opp j d
theorem va_rev (fl : Cl → Bool) : ∀ (u : W4) (c : Cl), fl c = true → vaW fl c u = true → vaW fl (ecW c u) (revW u) = true
  | [], _, _, _ => rfl
  | j :: u, c, h0, h => by
    have h' : fl (mvC j c) = true ∧ vaW fl (mvC j c) u = true := by
      have : (fl (mvC j c) && vaW fl (mvC j c) u) = true := h
      simpa using this
    rw [revW_cons, ecW_cons, vaW_append, va_rev fl u _ h'.1 h'.2, ec_rev]
    show (true && (fl (mvC (opp j) (mvC j c)) && true)) = true
    rw [mv_opp, h0]
    rfl
theorem va_end (fl : Cl → Bool) : ∀ (u : W4) (c : Cl), fl c = true → vaW fl c u = true → fl (ecW c u) = true
  | [], _, h0, _ => h0
  | j :: u, c, _, h => by
    have h' : fl (mvC j c) = true ∧ vaW fl (mvC j c) u = true := by
      have : (fl (mvC j c) && vaW fl (mvC j c) u) = true := h
      simpa using this
    exact va_end fl u _ h'.1 h'.2
/-- The same word from another cell. -/
theorem mv_shift (j : Fin 4) (a b : Cl) : mvC j (a.1 + b.1, a.2 + b.2) = (a.1 + (mvC j b).1, a.2 + (mvC j b).2) := by
  rcases four j with rfl | rfl | rfl | rfl
  · show (a.1 + b.1, a.2 + b.2 - 1) = (a.1 + b.1, a.2 + (b.2 - 1)); congr 1; omega
  · show (a.1 + b.1 + 1, a.2 + b.2) = (a.1 + (b.1 + 1), a.2 + b.2); congr 1; omega
  · show (a.1 + b.1, a.2 + b.2 + 1) = (a.1 + b.1, a.2 + (b.2 + 1)); congr 1; omega
  · show (a.1 + b.1 - 1, a.2 + b.2) = (a.1 + (b.1 - 1), a.2 + b.2); congr 1; omega
theorem ec_shift : ∀ (u : W4) (a b : Cl), ecW (a.1 + b.1, a.2 + b.2) u = (a.1 + (ecW b u).1, a.2 + (ecW b u).2)
  | [], _, _ => rfl
  | j :: u, a, b => by rw [ecW_cons, ecW_cons, mv_shift, ec_shift u]
theorem ec_zero (c : Cl) (u : W4) : ecW c u = (c.1 + (ecW (0, 0) u).1, c.2 + (ecW (0, 0) u).2) := by
  have := ec_shift u c (0, 0)
  simpa using this
/-- No roll is undone at once. -/
def nbW : W4 → Bool
  | a :: b :: u => (b != opp a) && nbW (b :: u)
  | _ => true
theorem uniq1 : ∀ a a' : Fin 4, ecW (0, 0) [a] = ecW (0, 0) [a'] → a = a' := by decide +kernel
theorem uniq2 : ∀ a b a' b' : Fin 4, nbW [a, b] = true → nbW [a', b'] = true → ecW (0, 0) [a, b] = ecW (0, 0) [a', b'] → edW unitD [a, b] = edW unitD [a', b'] → [a, b] = [a', b'] := by decide +kernel
theorem uniq3 : ∀ a b c a' b' c' : Fin 4, nbW [a, b, c] = true → nbW [a', b', c'] = true → ecW (0, 0) [a, b, c] = ecW (0, 0) [a', b', c'] → edW unitD [a, b, c] = edW unitD [a', b', c'] → [a, b, c] = [a', b', c'] := by decide +kernel
def horW (j : Fin 4) : Bool := decide (j = 1 ∨ j = 3)
theorem uniqH : ∀ a b a' b' : Fin 4, nbW [a, b] = true → nbW [a', b'] = true → ecW (0, 0) [a, b] = ecW (0, 0) [a', b'] → horW a = horW a' → [a, b] = [a', b'] := by decide +kernel
theorem uniq_any (v v' : W4) (hl : v.length = v'.length) (h3 : v.length ≤ 3) (h1 : nbW v = true) (h2 : nbW v' = true) (he : ecW (0, 0) v = ecW (0, 0) v') (hd : edW unitD v = edW unitD v') : v = v' := by
  match v, v', hl, h3 with
  | [], [], _, _ => rfl
  | [a], [a'], _, _ => rw [uniq1 a a' he]
  | [a, b], [a', b'], _, _ => exact uniq2 a b a' b' h1 h2 he hd
  | [a, b, c], [a', b', c'], _, _ => exact uniq3 a b c a' b' c' h1 h2 he hd
theorem pick_inj : ∀ p ∈ ways, ∀ q ∈ ways, ∀ q' ∈ ways, pick p q = pick p q' → q = q' := by decide +kernel
/-- Even dice among the twenty-four ways. -/
def evD (p : D) : Bool := (([(p.t, p.n), (p.t, p.e), (p.t, p.s), (p.t, p.w), (p.t, p.b), (p.n, p.e), (p.n, p.s), (p.n, p.w), (p.n, p.b), (p.e, p.s), (p.e, p.w), (p.e, p.b), (p.s, p.w), (p.s, p.b), (p.w, p.b)] : List (Int × Int)).countP (fun x => decide (x.2 < x.1))) % 2 == 0
theorem ev_roll : ∀ p ∈ ways, ∀ j : Fin 4, evD (rlD j p) = !evD p := by decide +kernel
theorem ev_count : ∀ b : Bool, (ways.filter (fun p => evD p == b)).length = 12 := by decide +kernel
/-- The class of a cell and a die: it does not change in rolls. -/
def clsG (c : Cl) (p : D) : Bool := evD p == decide ((c.1 + c.2) % 2 = 0)
theorem cls_roll (c : Cl) (p : D) (hp : p ∈ ways) (j : Fin 4) : clsG (mvC j c) (rlD j p) = clsG c p := by
  unfold clsG
  rw [ev_roll p hp j]
  have hx : decide (((mvC j c).1 + (mvC j c).2) % 2 = 0) = !decide ((c.1 + c.2) % 2 = 0) := by
    rcases four j with rfl | rfl | rfl | rfl
    · show decide ((c.1 + (c.2 - 1)) % 2 = 0) = _
      by_cases h : (c.1 + c.2) % 2 = 0
      · rw [decide_eq_true h, decide_eq_false (by omega)]; rfl
      · rw [decide_eq_false h, decide_eq_true (by omega)]; rfl
    · show decide ((c.1 + 1 + c.2) % 2 = 0) = _
      by_cases h : (c.1 + c.2) % 2 = 0
      · rw [decide_eq_true h, decide_eq_false (by omega)]; rfl
      · rw [decide_eq_false h, decide_eq_true (by omega)]; rfl
    · show decide ((c.1 + (c.2 + 1)) % 2 = 0) = _
      by_cases h : (c.1 + c.2) % 2 = 0
      · rw [decide_eq_true h, decide_eq_false (by omega)]; rfl
      · rw [decide_eq_false h, decide_eq_true (by omega)]; rfl
    · show decide ((c.1 - 1 + c.2) % 2 = 0) = _
      by_cases h : (c.1 + c.2) % 2 = 0
      · rw [decide_eq_true h, decide_eq_false (by omega)]; rfl
      · rw [decide_eq_false h, decide_eq_true (by omega)]; rfl
  rw [hx]
  cases evD p <;> cases decide ((c.1 + c.2) % 2 = 0) <;> rfl
theorem cls_word : ∀ (u : W4) (c : Cl) (p : D), p ∈ ways → clsG (ecW c u) (edW p u) = clsG c p
  | [], _, _, _ => rfl
  | j :: u, c, p, hp => by rw [ecW_cons, edW_cons, cls_word u _ _ (rlD_ways p hp j), cls_roll c p hp j]
theorem cls_count (c : Cl) (b : Bool) : (ways.filter (fun p => clsG c p == b)).length = 12 := by
  unfold clsG
  cases decide ((c.1 + c.2) % 2 = 0) <;> cases b
  · have := ev_count true
    simpa using this
  · have := ev_count false
    simpa using this
  · have := ev_count false
    simpa using this
  · have := ev_count true
    simpa using this

/-- The labels of a search: what is reached, and how far it lies. -/
structure Geo (fl : Cl → Bool) (R : List Cl) (far : Cl → D → Option Nat) (c0 : Cl) (d0 : D) : Prop where
  nodup : R.Nodup
  zero : far c0 d0 = some 0
  home : fl c0 = true
  cells : ∀ c d n, far c d = some n → c ∈ R
  any : ∀ c ∈ R, ∃ d n, far c d = some n
  roll : ∀ c d j n, far c d = some n → fl (mvC j c) = true → ∃ m, far (mvC j c) (rlD j d) = some m ∧ m ≤ n + 1
  word : ∀ c d n, far c d = some n → ∃ u : W4, u.length = n ∧ vaW fl c0 u = true ∧ ecW c0 u = c ∧ edW d0 u = d
def isPath (fl : Cl → Bool) (far : Cl → D → Option Nat) (c0 : Cl) (d0 : D) (u : W4) : Prop := vaW fl c0 u = true ∧ far (ecW c0 u) (edW d0 u) = some u.length
section
variable {fl : Cl → Bool} {R : List Cl} {far : Cl → D → Option Nat} {c0 : Cl} {d0 : D}
theorem Geo.run (h : Geo fl R far c0 d0) : ∀ (u : W4) (c : Cl) (d : D) (n : Nat), far c d = some n → vaW fl c u = true → ∃ m, far (ecW c u) (edW d u) = some m ∧ m ≤ n + u.length
  | [], c, d, n, hf, _ => ⟨n, hf, Nat.le_refl _⟩
  | j :: u, c, d, n, hf, hv => by
    have h' : fl (mvC j c) = true ∧ vaW fl (mvC j c) u = true := by
      have : (fl (mvC j c) && vaW fl (mvC j c) u) = true := hv
      simpa using this
    obtain ⟨m, hm, hle⟩ := h.roll c d j n hf h'.1
    obtain ⟨m', hm', hle'⟩ := Geo.run h u _ _ m hm h'.2
    exact ⟨m', hm', by simp only [List.length_cons]; omega⟩
theorem Geo.pre (h : Geo fl R far c0 d0) {a b : W4} (hp : isPath fl far c0 d0 (a ++ b)) : isPath fl far c0 d0 a := by
  obtain ⟨hv, hf⟩ := hp
  rw [vaW_append, Bool.and_eq_true] at hv
  obtain ⟨m, hm, hle⟩ := h.run a c0 d0 0 h.zero hv.1
  obtain ⟨m', hm', hle'⟩ := h.run b _ _ m hm hv.2
  rw [ecW_append, edW_append, hm', List.length_append] at hf
  have := Option.some.inj hf
  refine ⟨hv.1, ?_⟩
  rw [hm]
  congr 1
  omega
theorem Geo.noback (h : Geo fl R far c0 d0) {a b : W4} {x y : Fin 4} (hp : isPath fl far c0 d0 (a ++ x :: y :: b)) : y ≠ opp x := by
  intro hy
  subst hy
  have h1 := (h.pre (b := x :: opp x :: b) hp).2
  have h2 := (h.pre (a := a ++ [x, opp x]) (b := b) (by rw [List.append_assoc]; exact hp)).2
  rw [ecW_append, edW_append] at h2
  have e1 : ecW (ecW c0 a) [x, opp x] = ecW c0 a := mv_opp x _
  have e2 : edW (edW d0 a) [x, opp x] = edW d0 a := rl_opp x _
  rw [e1, e2, h1] at h2
  have := Option.some.inj h2
  simp at this
theorem nb_of : ∀ (u : W4), (∀ a x y b, u = a ++ x :: y :: b → y ≠ opp x) → nbW u = true
  | [], _ => rfl
  | [_], _ => rfl
  | x :: y :: u, h => by
    show ((y != opp x) && nbW (y :: u)) = true
    have h1 : y ≠ opp x := h [] x y u rfl
    rw [nb_of (y :: u) (fun a x' y' b e => h (x :: a) x' y' b (by rw [e]; rfl))]
    simp [h1]
theorem Geo.nb (h : Geo fl R far c0 d0) {a b : W4} (hp : isPath fl far c0 d0 (a ++ b)) : nbW b = true :=
  nb_of b (fun a' x y b' e => h.noback (a := a ++ a') (b := b') (by rw [List.append_assoc, ← e]; exact hp))
/-- Each once. -/
def dd : List W4 → List W4
  | [] => []
  | u :: l => if u ∈ dd l then dd l else u :: dd l
theorem mem_dd {x : W4} : ∀ {l : List W4}, x ∈ dd l ↔ x ∈ l
  | [] => Iff.rfl
  | u :: l => by
    unfold dd
    have ih := @mem_dd x l
    split
    · rename_i hu
      constructor
      · intro hx; exact List.mem_cons_of_mem _ (ih.1 hx)
      · intro hx
        rcases List.mem_cons.1 hx with rfl | hx
        · exact hu
        · exact ih.2 hx
    · rw [List.mem_cons, List.mem_cons, ih]
theorem dd_nodup : ∀ (l : List W4), (dd l).Nodup
  | [] => List.nodup_nil
  | u :: l => by
    unfold dd
    split
    · exact dd_nodup l
    · rename_i hu
      exact List.nodup_cons.2 ⟨hu, dd_nodup l⟩
def prodL {α β : Type} (A : List α) (B : List β) : List (α × β) := A.flatMap (fun a => B.map (fun b => (a, b)))
theorem prodL_len {α β : Type} (B : List β) : ∀ (A : List α), (prodL A B).length = A.length * B.length
  | [] => by simp [prodL]
  | a :: A => by
    have ih := prodL_len B A
    unfold prodL at ih ⊢
    rw [List.flatMap_cons, List.length_append, ih, List.length_map, List.length_cons, Nat.add_mul]
    omega
theorem mem_prodL {α β : Type} {A : List α} {B : List β} {a : α} {b : β} (ha : a ∈ A) (hb : b ∈ B) : (a, b) ∈ prodL A B :=
  List.mem_flatMap.2 ⟨a, ha, List.mem_map.2 ⟨b, hb, rfl⟩⟩
theorem nodup_mapB {α β : Type} (f : α → β) : ∀ (l : List α), l.Nodup → (∀ a ∈ l, ∀ b ∈ l, f a = f b → a = b) → (l.map f).Nodup
  | [], _, _ => List.nodup_nil
  | x :: l, hn, hi => by
    rw [List.map_cons, List.nodup_cons]
    rw [List.nodup_cons] at hn
    refine ⟨fun hx => ?_, nodup_mapB f l hn.2 (fun a ha b hb => hi a (List.mem_cons_of_mem _ ha) b (List.mem_cons_of_mem _ hb))⟩
    obtain ⟨y, hy, e⟩ := List.mem_map.1 hx
    exact hn.1 (hi y (List.mem_cons_of_mem _ hy) x (List.mem_cons_self ..) e ▸ hy)
/-- The generic states: a cell, and how the die is turned. -/
def baseG (R : List Cl) (c0 : Cl) : List (Cl × D) := R.flatMap (fun c => (ways.filter (fun p => clsG c p == clsG c0 unitD)).map (fun p => (c, p)))
theorem baseG_len (c0 : Cl) : ∀ (R : List Cl), (baseG R c0).length = 12 * R.length
  | [] => rfl
  | c :: R => by
    have ih := baseG_len c0 R
    unfold baseG at ih ⊢
    rw [List.flatMap_cons, List.length_append, ih, List.length_map, cls_count, List.length_cons]
    omega
def farG (far : Cl → D → Option Nat) (d0 : D) (x : Cl × D) : Option Nat := far x.1 (pick d0 x.2)
def VG (R : List Cl) (far : Cl → D → Option Nat) (c0 : Cl) (d0 : D) (i : Nat) : List (Cl × D) := (baseG R c0).filter (fun x => decide (farG far d0 x = some i))
theorem Geo.inV (h : Geo fl R far c0 d0) {u : W4} (hp : isPath fl far c0 d0 u) : (ecW c0 u, edW unitD u) ∈ VG R far c0 d0 u.length := by
  have hf : farG far d0 (ecW c0 u, edW unitD u) = some u.length := by
    show far (ecW c0 u) (pick d0 (edW unitD u)) = _
    rw [← edW_unit]
    exact hp.2
  refine List.mem_filter.2 ⟨List.mem_flatMap.2 ⟨ecW c0 u, h.cells _ _ _ hp.2, List.mem_map.2 ⟨edW unitD u, List.mem_filter.2 ⟨edW_ways u _ unit_ways, ?_⟩, rfl⟩⟩, decide_eq_true hf⟩
  rw [cls_word u c0 unitD unit_ways]
  exact beq_self_eq_true _
def pref (ws : List W4) (m : Nat) : List W4 := dd (ws.map (·.take m))
theorem mem_pref {ws : List W4} {m : Nat} {u : W4} : u ∈ pref ws m ↔ ∃ w ∈ ws, w.take m = u := by
  unfold pref
  rw [mem_dd, List.mem_map]
theorem ec_drop (c : Cl) (a v : W4) : ecW c (a ++ v) = ((ecW c a).1 + (ecW (0, 0) v).1, (ecW c a).2 + (ecW (0, 0) v).2) := by
  rw [ecW_append, ec_zero (ecW c a) v]
theorem Geo.step (h : Geo fl R far c0 d0) {ws : List W4} (n : Nat) (hw : ∀ w ∈ ws, isPath fl far c0 d0 w ∧ w.length = n) (m k : Nat) (hk : k ≤ 3) (hm : m + k ≤ n) : (pref ws (m + k)).length ≤ (pref ws m).length * (VG R far c0 d0 (m + k)).length := by
  have hpre : ∀ i, i ≤ n → ∀ u ∈ pref ws i, isPath fl far c0 d0 u ∧ u.length = i := by
    intro i hi u hu
    obtain ⟨w, hw1, rfl⟩ := mem_pref.1 hu
    obtain ⟨h1, h2⟩ := hw w hw1
    refine ⟨h.pre (b := w.drop i) (by rw [List.take_append_drop]; exact h1), ?_⟩
    rw [List.length_take]
    omega
  rw [← prodL_len, ← List.length_map (f := fun u : W4 => (u.take m, (ecW c0 u, edW unitD u))) (as := pref ws (m + k))]
  refine nodup_le _ _ (nodup_mapB _ _ (dd_nodup _) ?_) ?_
  · intro u hu u' hu' e
    obtain ⟨hp, hl⟩ := hpre _ hm u hu
    obtain ⟨hp', hl'⟩ := hpre _ hm u' hu'
    have e1 : u.take m = u'.take m := congrArg (·.1) e
    have e2 : ecW c0 u = ecW c0 u' := congrArg (·.2.1) e
    have e3 : edW unitD u = edW unitD u' := congrArg (·.2.2) e
    rw [← List.take_append_drop m u] at hp e2 e3
    rw [← List.take_append_drop m u', ← e1] at hp' e2 e3
    rw [ec_drop, ec_drop c0 _ (u'.drop m), Prod.mk.injEq] at e2
    rw [edW_append, edW_append _ _ (u'.drop m), edW_unit (edW unitD (u.take m)), edW_unit (edW unitD (u.take m)) (u'.drop m)] at e3
    have e3' := pick_inj _ (edW_ways (u.take m) _ unit_ways) _ (edW_ways (u.drop m) _ unit_ways) _ (edW_ways (u'.drop m) _ unit_ways) e3
    have e2' : ecW (0, 0) (u.drop m) = ecW (0, 0) (u'.drop m) := Prod.ext (by omega) (by omega)
    have := uniq_any (u.drop m) (u'.drop m) (by rw [List.length_drop, List.length_drop]; omega) (by rw [List.length_drop]; omega) (h.nb hp) (h.nb hp') e2' e3'
    rw [← List.take_append_drop m u, ← List.take_append_drop m u', e1, this]
  · intro x hx
    obtain ⟨u, hu, rfl⟩ := List.mem_map.1 hx
    obtain ⟨hp, hl⟩ := hpre _ hm u hu
    refine mem_prodL ?_ ?_
    · obtain ⟨w, hw1, rfl⟩ := mem_pref.1 hu
      exact mem_pref.2 ⟨w, hw1, by rw [List.take_take]; congr 1; omega⟩
    · have := h.inV hp
      rwa [hl] at this
/-! ### Products and sums of the layers -/
end
def piV (v : Nat → Nat) : Nat → Nat
  | 0 => 1
  | i + 1 => piV v i * v (i + 1)
def suV (v : Nat → Nat) : Nat → Nat
  | 0 => 0
  | i + 1 => suV v i + v (i + 1)
def uptoG (f : Option Nat) (k : Nat) : Bool := match f with
  | some i => decide (1 ≤ i ∧ i ≤ k)
  | none => false
theorem upto_succ {α : Type} (f : α → Option Nat) (k : Nat) : ∀ (l : List α), (l.filter (fun x => uptoG (f x) (k + 1))).length = (l.filter (fun x => uptoG (f x) k)).length + (l.filter (fun x => decide (f x = some (k + 1)))).length
  | [] => rfl
  | x :: l => by
    have ih := upto_succ f k l
    simp only [List.filter_cons]
    cases hx : f x with
    | none =>
      have a : uptoG (none : Option Nat) (k + 1) = false := rfl
      have b : uptoG (none : Option Nat) k = false := rfl
      have c : decide ((none : Option Nat) = some (k + 1)) = false := by simp
      rw [a, b, c]
      exact ih
    | some i =>
      by_cases h1 : i = k + 1
      · have a : uptoG (some i) (k + 1) = true := decide_eq_true (by omega)
        have b : uptoG (some i) k = false := decide_eq_false (by omega)
        have c : decide (some i = some (k + 1)) = true := by simp [h1]
        rw [a, b, c]
        simp only [if_true, Bool.false_eq_true, if_false, List.length_cons, ih]
        omega
      · have c : decide (some i = some (k + 1)) = false := by simp [h1]
        by_cases h2 : 1 ≤ i ∧ i ≤ k
        · have a : uptoG (some i) (k + 1) = true := decide_eq_true (by omega)
          have b : uptoG (some i) k = true := decide_eq_true h2
          rw [a, b, c]
          simp only [if_true, Bool.false_eq_true, if_false, List.length_cons, ih]
          omega
        · have a : uptoG (some i) (k + 1) = false := decide_eq_false (by omega)
          have b : uptoG (some i) k = false := decide_eq_false h2
          rw [a, b, c]
          exact ih
theorem sum_upto {α : Type} (f : α → Option Nat) (l : List α) : ∀ k, suV (fun i => (l.filter (fun x => decide (f x = some i))).length) k = (l.filter (fun x => uptoG (f x) k)).length
  | 0 => by
    have : l.filter (fun x => uptoG (f x) 0) = [] := by
      rw [List.filter_eq_nil_iff]
      intro x _ h
      cases hx : f x with
      | none => rw [hx] at h; exact absurd h (by simp [uptoG])
      | some i => rw [hx] at h; simp only [uptoG, decide_eq_true_eq] at h; omega
    rw [this]
    rfl
  | k + 1 => by
    rw [upto_succ, ← sum_upto f l k]
    rfl
theorem sum_le {α : Type} (f : α → Option Nat) (l : List α) (k : Nat) : suV (fun i => (l.filter (fun x => decide (f x = some i))).length) k ≤ l.length := by
  rw [sum_upto]
  exact List.length_filter_le _ _
theorem cube3 : ∀ w : Nat, w * w * w ≤ 3 ^ w
  | 0 => by decide
  | 1 => by decide
  | 2 => by decide
  | 3 => by decide
  | w + 4 => by
    have ih := cube3 (w + 3)
    have h : (w + 4) * (w + 4) * (w + 4) ≤ 3 * ((w + 3) * (w + 3) * (w + 3)) := by
      rw [show w + 4 = (w + 3) + 1 from rfl]
      have hx : 3 ≤ w + 3 := by omega
      revert hx
      generalize w + 3 = x
      intro hx
      have h2 : 3 * x ≤ x * x := Nat.mul_le_mul_right x hx
      have h3 : 3 * x * x ≤ x * x * x := Nat.mul_le_mul_right x h2
      rw [Nat.mul_assoc] at h3
      have e : (x + 1) * (x + 1) * (x + 1) = x * x * x + 3 * (x * x) + 3 * x + 1 := by
        simp only [Nat.add_mul, Nat.mul_add, Nat.mul_one, Nat.one_mul]
        omega
      rw [e]
      omega
    calc (w + 4) * (w + 4) * (w + 4) ≤ 3 * ((w + 3) * (w + 3) * (w + 3)) := h
      _ ≤ 3 * 3 ^ (w + 3) := Nat.mul_le_mul_left 3 ih
      _ = 3 ^ (w + 4) := by rw [show w + 4 = (w + 3) + 1 from rfl, Nat.pow_succ (n := 3) (m := w + 3)]; omega
theorem pi_three (v : Nat → Nat) : ∀ n, piV v n * piV v n * piV v n ≤ 3 ^ suV v n
  | 0 => by show 1 * 1 * 1 ≤ 3 ^ 0; decide
  | n + 1 => by
    have ih := pi_three v n
    show piV v n * v (n + 1) * (piV v n * v (n + 1)) * (piV v n * v (n + 1)) ≤ 3 ^ (suV v n + v (n + 1))
    rw [Nat.pow_add]
    have e : piV v n * v (n + 1) * (piV v n * v (n + 1)) * (piV v n * v (n + 1)) = (piV v n * piV v n * piV v n) * (v (n + 1) * v (n + 1) * v (n + 1)) := by ac_rfl
    rw [e]
    exact Nat.mul_le_mul ih (cube3 _)
theorem six7 : ∀ w : Nat, w * 6 ^ w * 7 ^ 6 ≤ 6 ^ 7 * 7 ^ w
  | 0 => by decide
  | 1 => by decide
  | 2 => by decide
  | 3 => by decide
  | 4 => by decide
  | 5 => by decide
  | 6 => by decide
  | w + 7 => by
    have ih := six7 (w + 6)
    have e1 : (w + 7) * 6 ^ (w + 7) * 7 ^ 6 = ((w + 7) * 6) * (6 ^ (w + 6) * 7 ^ 6) := by rw [show 6 ^ (w + 7) = 6 * 6 ^ (w + 6) from Nat.pow_succ' .. ]; ac_rfl
    have e2 : 6 ^ 7 * 7 ^ (w + 7) = 7 * (6 ^ 7 * 7 ^ (w + 6)) := by rw [show 7 ^ (w + 7) = 7 * 7 ^ (w + 6) from Nat.pow_succ' ..]; ac_rfl
    rw [e1, e2]
    calc (w + 7) * 6 * (6 ^ (w + 6) * 7 ^ 6) ≤ 7 * (w + 6) * (6 ^ (w + 6) * 7 ^ 6) := Nat.mul_le_mul_right _ (by omega)
      _ = 7 * ((w + 6) * 6 ^ (w + 6) * 7 ^ 6) := by ac_rfl
      _ ≤ _ := Nat.mul_le_mul_left 7 ih
theorem pi_six (v : Nat → Nat) : ∀ n, piV v n * 6 ^ suV v n * 7 ^ (6 * n) ≤ 6 ^ (7 * n) * 7 ^ suV v n
  | 0 => by show 1 * 6 ^ 0 * 7 ^ (6 * 0) ≤ 6 ^ (7 * 0) * 7 ^ 0; decide
  | n + 1 => by
    have ih := pi_six v n
    show piV v n * v (n + 1) * 6 ^ (suV v n + v (n + 1)) * 7 ^ (6 * n + 6) ≤ 6 ^ (7 * n + 7) * 7 ^ (suV v n + v (n + 1))
    rw [Nat.pow_add, Nat.pow_add, Nat.pow_add, Nat.pow_add]
    have e1 : piV v n * v (n + 1) * (6 ^ suV v n * 6 ^ v (n + 1)) * (7 ^ (6 * n) * 7 ^ 6) = (piV v n * 6 ^ suV v n * 7 ^ (6 * n)) * (v (n + 1) * 6 ^ v (n + 1) * 7 ^ 6) := by ac_rfl
    have e2 : 6 ^ (7 * n) * 6 ^ 7 * (7 ^ suV v n * 7 ^ v (n + 1)) = (6 ^ (7 * n) * 7 ^ suV v n) * (6 ^ 7 * 7 ^ v (n + 1)) := by ac_rfl
    rw [e1, e2]
    exact Nat.mul_le_mul ih (six7 _)
theorem pi_six' (v : Nat → Nat) (n N S : Nat) (hS : S = 6 * N) (hn : n ≤ N) (hs : suV v n ≤ S) : piV v n ≤ 6 ^ N := by
  have h := pi_six v n
  have a : 6 ^ (S - suV v n) ≤ 7 ^ (S - suV v n) := Nat.pow_le_pow_left (by decide) _
  have b : (7 ^ 6) ^ (N - n) ≤ (6 ^ 7) ^ (N - n) := Nat.pow_le_pow_left (by decide) _
  have h2 := Nat.mul_le_mul (Nat.mul_le_mul h a) b
  have e1 : piV v n * 6 ^ suV v n * 7 ^ (6 * n) * 6 ^ (S - suV v n) * (7 ^ 6) ^ (N - n) = piV v n * (6 ^ S * 7 ^ S) := by
    have x1 : 6 ^ S = 6 ^ suV v n * 6 ^ (S - suV v n) := by rw [← Nat.pow_add]; congr 1; omega
    have x2 : 7 ^ S = 7 ^ (6 * n) * (7 ^ 6) ^ (N - n) := by rw [← Nat.pow_mul, ← Nat.pow_add]; congr 1; omega
    rw [x1, x2]
    ac_rfl
  have e2 : 6 ^ (7 * n) * 7 ^ suV v n * 7 ^ (S - suV v n) * (6 ^ 7) ^ (N - n) = 6 ^ N * (6 ^ S * 7 ^ S) := by
    have x1 : 6 ^ N * 6 ^ S = 6 ^ (7 * n) * (6 ^ 7) ^ (N - n) := by rw [← Nat.pow_mul, ← Nat.pow_add, ← Nat.pow_add]; congr 1; omega
    have x2 : 7 ^ S = 7 ^ suV v n * 7 ^ (S - suV v n) := by rw [← Nat.pow_add]; congr 1; omega
    rw [← Nat.mul_assoc, x1, x2]
    ac_rfl
  rw [e1, e2] at h2
  exact Nat.le_of_mul_le_mul_right h2 (Nat.mul_pos (Nat.pow_pos (by decide)) (Nat.pow_pos (by decide)))
section
variable {fl : Cl → Bool} {R : List Cl} {far : Cl → D → Option Nat} {c0 : Cl} {d0 : D}
def vG (R : List Cl) (far : Cl → D → Option Nat) (c0 : Cl) (d0 : D) (i : Nat) : Nat := (VG R far c0 d0 i).length
theorem sum_vG (n : Nat) : suV (vG R far c0 d0) n ≤ 12 * R.length := by
  rw [← baseG_len c0 R]
  exact sum_le (farG far d0) (baseG R c0) n
theorem Geo.triple (h : Geo fl R far c0 d0) {ws : List W4} (n : Nat) (hw : ∀ w ∈ ws, isPath fl far c0 d0 w ∧ w.length = n) : ∀ m, m + 2 ≤ n → (pref ws m).length * (pref ws (m + 1)).length * (pref ws (m + 2)).length ≤ piV (vG R far c0 d0) (m + 2)
  | 0, hm => by
    have p0 : (pref ws 0).length ≤ 1 := by
      have : (pref ws 0).length ≤ [([] : W4)].length := nodup_le _ _ (dd_nodup _) (by
        intro u hu
        obtain ⟨w, _, rfl⟩ := mem_pref.1 hu
        simp)
      exact this
    have p1 := h.step n hw 0 1 (by omega) (by omega)
    have p2 := h.step n hw 0 2 (by omega) (by omega)
    have q1 : (pref ws 1).length ≤ vG R far c0 d0 1 := by
      have := Nat.le_trans p1 (Nat.mul_le_mul_right _ p0)
      simpa [vG] using this
    have q2 : (pref ws 2).length ≤ vG R far c0 d0 2 := by
      have := Nat.le_trans p2 (Nat.mul_le_mul_right _ p0)
      simpa [vG] using this
    exact Nat.mul_le_mul (Nat.mul_le_mul p0 q1) q2
  | m + 1, hm => by
    have ih := Geo.triple h n hw m (by omega)
    have p3 := h.step n hw m 3 (by omega) (by omega)
    show (pref ws (m + 1)).length * (pref ws (m + 2)).length * (pref ws (m + 3)).length ≤ piV (vG R far c0 d0) (m + 2) * vG R far c0 d0 (m + 3)
    calc (pref ws (m + 1)).length * (pref ws (m + 2)).length * (pref ws (m + 3)).length ≤ (pref ws (m + 1)).length * (pref ws (m + 2)).length * ((pref ws m).length * vG R far c0 d0 (m + 3)) := Nat.mul_le_mul_left _ p3
      _ = (pref ws m).length * (pref ws (m + 1)).length * (pref ws (m + 2)).length * vG R far c0 d0 (m + 3) := by ac_rfl
      _ ≤ _ := Nat.mul_le_mul_right _ ih
theorem two_dir {u u' a : W4} {n : Nat} (hu : u.length = n) (hu' : u'.length = n) (k : Nat) (h1 : u.take (n - k) = u'.take (n - k)) (he : ecW c0 u = ecW c0 u') : ecW (0, 0) (u.drop (n - k)) = ecW (0, 0) (u'.drop (n - k)) := by
  rw [← List.take_append_drop (n - k) u, ← List.take_append_drop (n - k) u', ← h1, ec_drop, ec_drop c0 _ (u'.drop (n - k)), Prod.mk.injEq] at he
  exact Prod.ext (by omega) (by omega)
theorem Geo.three (h : Geo fl R far c0 d0) {ws : List W4} (hnd : ws.Nodup) (n : Nat) (e : Cl) (hw : ∀ w ∈ ws, isPath fl far c0 d0 w ∧ w.length = n) (he : ∀ w ∈ ws, ecW c0 w = e) (hn : 2 ≤ n) : ws.length * ws.length * ws.length ≤ 2 * piV (vG R far c0 d0) n := by
  have c1 : ws.length ≤ (pref ws n).length := nodup_le _ _ hnd (fun w hw' => mem_pref.2 ⟨w, hw', by rw [List.take_of_length_le]; rw [(hw w hw').2]; exact Nat.le_refl _⟩)
  have c2 : ws.length ≤ (pref ws (n - 1)).length := by
    rw [← List.length_map (f := fun u : W4 => u.take (n - 1)) (as := ws)]
    refine nodup_le _ _ (nodup_mapB _ _ hnd ?_) (fun x hx => ?_)
    · intro u hu u' hu' e1
      have hd := two_dir (c0 := c0) (a := []) (hw u hu).2 (hw u' hu').2 1 e1 (by rw [he u hu, he u' hu'])
      have l1 : (u.drop (n - 1)).length = 1 := by rw [List.length_drop, (hw u hu).2]; omega
      have l2 : (u'.drop (n - 1)).length = 1 := by rw [List.length_drop, (hw u' hu').2]; omega
      obtain ⟨x, hx⟩ := List.length_eq_one_iff.1 l1
      obtain ⟨x', hx'⟩ := List.length_eq_one_iff.1 l2
      rw [hx, hx'] at hd
      have := uniq1 x x' hd
      rw [← List.take_append_drop (n - 1) u, ← List.take_append_drop (n - 1) u', hx, hx', this]
      exact congrArg (· ++ [x']) e1
    · obtain ⟨u, hu, rfl⟩ := List.mem_map.1 hx
      exact mem_pref.2 ⟨u, hu, rfl⟩
  have c3 : ws.length ≤ 2 * (pref ws (n - 2)).length := by
    have hP : (prodL (pref ws (n - 2)) [true, false]).length = (pref ws (n - 2)).length * 2 := prodL_len _ _
    rw [Nat.mul_comm, ← hP, ← List.length_map (f := fun u : W4 => (u.take (n - 2), horW (u.getD (n - 2) 0))) (as := ws)]
    refine nodup_le _ _ (nodup_mapB _ _ hnd ?_) (fun x hx => ?_)
    · intro u hu u' hu' e1
      have e2 : u.take (n - 2) = u'.take (n - 2) := congrArg (·.1) e1
      have e3 : horW (u.getD (n - 2) 0) = horW (u'.getD (n - 2) 0) := congrArg (·.2) e1
      have hd := two_dir (c0 := c0) (a := []) (hw u hu).2 (hw u' hu').2 2 e2 (by rw [he u hu, he u' hu'])
      have l1 : (u.drop (n - 2)).length = 2 := by rw [List.length_drop, (hw u hu).2]; omega
      have l2 : (u'.drop (n - 2)).length = 2 := by rw [List.length_drop, (hw u' hu').2]; omega
      have nb1 := h.nb (a := u.take (n - 2)) (b := u.drop (n - 2)) (by rw [List.take_append_drop]; exact (hw u hu).1)
      have nb2 := h.nb (a := u'.take (n - 2)) (b := u'.drop (n - 2)) (by rw [List.take_append_drop]; exact (hw u' hu').1)
      have g1 : u.getD (n - 2) 0 = (u.drop (n - 2)).getD 0 0 := by simp [List.getD_eq_getElem?_getD]
      have g2 : u'.getD (n - 2) 0 = (u'.drop (n - 2)).getD 0 0 := by simp [List.getD_eq_getElem?_getD]
      rw [g1, g2] at e3
      rw [← List.take_append_drop (n - 2) u, ← List.take_append_drop (n - 2) u']
      revert hd nb1 nb2 e3 l1 l2
      generalize u.drop (n - 2) = a
      generalize u'.drop (n - 2) = a'
      intro e3 hd l1 l2 nb1 nb2
      match a, a', l1, l2 with
      | [x, y], [x', y'], _, _ => rw [uniqH x y x' y' nb1 nb2 hd e3, e2]
    · obtain ⟨u, hu, rfl⟩ := List.mem_map.1 hx
      refine mem_prodL (mem_pref.2 ⟨u, hu, rfl⟩) ?_
      cases horW (u.getD (n - 2) 0) <;> simp
  have t := h.triple n hw (n - 2) (by omega)
  rw [show n - 2 + 1 = n - 1 by omega, show n - 2 + 2 = n by omega] at t
  calc ws.length * ws.length * ws.length ≤ (2 * (pref ws (n - 2)).length) * (pref ws (n - 1)).length * (pref ws n).length := Nat.mul_le_mul (Nat.mul_le_mul c3 c2) c1
    _ = 2 * ((pref ws (n - 2)).length * (pref ws (n - 1)).length * (pref ws n).length) := by ac_rfl
    _ ≤ _ := Nat.mul_le_mul_left 2 t
end
end Go.Proofs.YthdkhikkdcjifaaDoor
namespace Go.Proofs.YthdkhikkdcjifaaDoor
set_option maxRecDepth 100000
set_option linter.all false

/-! ### A word that comes to a cell of a kind -/
theorem va_take {fl : Cl → Bool} {c : Cl} {u : W4} (i : Nat) (h : vaW fl c u = true) : vaW fl c (u.take i) = true ∧ vaW fl (ecW c (u.take i)) (u.drop i) = true := by
  have := vaW_append fl (u.take i) (u.drop i) c
  rw [List.take_append_drop, h] at this
  simpa using this.symm
theorem ec_split (c : Cl) (u : W4) (i : Nat) : ecW c u = ecW (ecW c (u.take i)) (u.drop i) := by
  rw [← ecW_append, List.take_append_drop]
theorem short_way (fl blk : Cl → Bool) (R : List Cl) : ∀ (N : Nat) (u : W4) (c : Cl), u.length ≤ N → (∀ i, i ≤ u.length → ecW c (u.take i) ∈ R) → vaW fl c u = true → blk (ecW c u) = true → ∃ v : W4, vaW fl c v = true ∧ blk (ecW c v) = true ∧ v.length ≤ (R.filter (fun x => !blk x)).length
  | 0, u, c, hN, _, hv, hb => ⟨u, hv, hb, by omega⟩
  | N + 1, u, c, hN, hR, hv, hb => by
    by_cases hL : u.length ≤ (R.filter (fun x => !blk x)).length
    · exact ⟨u, hv, hb, hL⟩
    by_cases hin : ∃ i, i < u.length ∧ blk (ecW c (u.take i)) = true
    · obtain ⟨i, hi, hbi⟩ := hin
      refine short_way fl blk R N (u.take i) c (by rw [List.length_take]; omega) (fun k hk => ?_) (va_take i hv).1 hbi
      rw [List.length_take] at hk
      rw [List.take_take]
      exact hR _ (by omega)
    have hout : ∀ i, i < u.length → blk (ecW c (u.take i)) = false := fun i hi => by
      cases e : blk (ecW c (u.take i))
      · rfl
      · exact absurd ⟨i, hi, e⟩ hin
    by_cases hinj : ∀ i, i < u.length → ∀ j, j < u.length → ecW c (u.take i) = ecW c (u.take j) → i = j
    · exfalso
      apply hL
      rw [← List.length_range (n := u.length), ← List.length_map (f := fun i => ecW c (u.take i)) (as := List.range u.length)]
      refine nodup_le _ _ (nodup_mapB _ _ List.nodup_range (fun i hi j hj e => hinj i (List.mem_range.1 hi) j (List.mem_range.1 hj) e)) (fun x hx => ?_)
      obtain ⟨i, hi, rfl⟩ := List.mem_map.1 hx
      have hi := List.mem_range.1 hi
      refine List.mem_filter.2 ⟨hR i (by omega), ?_⟩
      show (!blk (ecW c (u.take i))) = true
      rw [hout i hi]
      rfl
    have hcut : ∃ i j, i < j ∧ j < u.length ∧ ecW c (u.take i) = ecW c (u.take j) := by
      refine Classical.byContradiction fun hno => hinj fun i hi j hj e => ?_
      rcases Nat.lt_trichotomy i j with h | h | h
      · exact absurd ⟨i, j, h, hj, e⟩ hno
      · exact h
      · exact absurd ⟨j, i, h, hi, e.symm⟩ hno
    obtain ⟨i, j, hij, hj, e⟩ := hcut
    have hlen : (u.take i ++ u.drop j).length ≤ N := by
      rw [List.length_append, List.length_take, List.length_drop]
      omega
    refine short_way fl blk R N (u.take i ++ u.drop j) c hlen (fun k hk => ?_) ?_ ?_
    · rw [List.take_append, List.length_take]
      by_cases hki : k ≤ i
      · rw [List.take_take, show k - min i u.length = 0 by omega]
        simp only [List.take_zero, List.append_nil]
        exact hR _ (by omega)
      · rw [List.take_of_length_le (l := u.take i) (by rw [List.length_take]; omega), ecW_append, e, ← ecW_append]
        have : u.take j ++ (u.drop j).take (k - min i u.length) = u.take (j + (k - min i u.length)) := by rw [List.take_add]
        rw [this]
        rw [List.length_append, List.length_take, List.length_drop] at hk
        exact hR _ (by omega)
    · rw [vaW_append, (va_take i hv).1, e, (va_take j hv).2]
      rfl
    · rw [ecW_append, e, ← ec_split]
      exact hb

/-! ### In a block of six cells -/
def blkA : List Cl := [(0, 0), (1, 0), (0, 1), (1, 1), (0, 2), (1, 2)]
def blkB : List Cl := [(0, 0), (1, 0), (2, 0), (0, 1), (1, 1), (2, 1)]
def wdOf : Nat → Nat → W4
  | 0, _ => []
  | f + 1, n => if n % 5 = 0 then [] else (Fin.ofNat 4 (n % 5 - 1)) :: wdOf f (n / 5)
def tgts (bk : List Cl) (a : Cl) : List (Cl × D) := bk.flatMap (fun b => (ways.filter (fun p => clsG b p == clsG a unitD)).map (fun p => (b, p)))
def okW (bk : List Cl) (a : Cl) (x : (Cl × D) × Nat) : Bool := vaW (fun c => decide (c ∈ bk)) a (wdOf 12 x.2) && decide (ecW a (wdOf 12 x.2) = x.1.1) && decide (edW unitD (wdOf 12 x.2) = x.1.2)
def codesA : List (List Nat) := [[0, 3636788, 242, 332992, 4338, 4342, 335592, 335588, 5818, 145492, 538, 209745242, 20492, 2, 37068, 818, 23168038, 14432742, 35588, 1492, 926742, 23092, 38, 23088, 1683663, 1213, 3, 67367, 2413, 1507467, 2693, 1217, 117, 1507463, 760867, 45848617, 4867, 271443, 121163, 7467, 4667117, 7463, 17, 13, 6786117, 5413713, 193, 10867, 7543038, 18, 12068, 7366838, 7366842, 192332992, 588, 370242, 492, 11788, 366842, 592, 1443318, 33963992, 1742, 34710588, 68, 92, 26898092, 54338, 43038, 88, 54342, 57742],
  [21694, 868, 67118, 4, 18186548, 41949048, 29094, 2694, 48, 66598, 1677944, 29098, 0, 2886548, 177944, 194, 115444, 7118, 298, 4618, 185348, 4098, 185344, 115842798, 6069, 301493, 13469, 152173, 9169723, 13473, 243, 7537319, 23, 8420923, 19, 14673, 933423, 37319, 3, 973, 1082743, 2173, 1357223, 969, 608423, 1493, 69, 27068569, 1473368, 38466598, 2944, 45855298, 94, 118, 98, 73368, 60344, 46004618, 74048, 61548, 6792798, 18, 5379618, 10868, 11548, 136122848, 271694, 444, 217798, 6942118, 348, 344],
  [1, 67117, 727357, 1163, 1211, 1664961, 867, 2663, 1677961, 727461, 107, 41948607, 7413, 102461, 11, 163, 7, 4617, 115461, 4633607, 2886107, 4633711, 7117, 7461, 0, 336732, 242, 336836, 151732, 229243086, 301492, 482, 366788, 586, 538, 6086, 24336, 2, 54288, 33930586, 24232, 37336, 932982, 1492, 86, 1082742, 38, 1732, 1508607, 73607, 3, 2461, 2413, 1473367, 1538663, 46004617, 117, 2357, 1834211, 2961, 8711, 288663, 6792357, 6942117, 271711, 11107, 17, 13, 461, 8607, 5444913, 10867],
  [13423, 108471, 173, 21, 8389721, 5819, 13319, 3637309, 8389809, 9, 145471, 13471, 1, 923, 577309, 37069, 889721, 971, 577221, 1423, 59, 819, 926721, 23168559, 30346, 37686596, 60298, 4, 67346, 30434, 1833944, 2694, 48, 1684184, 96, 2934, 0, 186684, 186596, 194, 346, 135342846, 298, 216548, 434, 121684, 271444, 4846, 14721, 294673, 7693319, 9171059, 14809, 12309, 9200923, 471, 23, 301721, 19, 14673, 1358559, 2221, 3, 43559, 1075923, 2173, 2309, 27224569, 1358471, 1388423, 69, 1721],
  [3636786, 6, 335586, 232, 536, 209743036, 3637306, 6056, 8324806, 336782, 4336, 532, 1482, 23168036, 512306, 14430536, 56, 32, 36, 23086, 24282, 23168556, 35586, 37306, 1, 2411, 1683661, 73357, 1211, 1684181, 758661, 42104607, 1507461, 2931, 107, 2407, 10857, 121681, 11, 3042107, 7, 8661, 5413711, 121161, 8657, 431, 4664911, 7461, 0, 7543036, 368036, 12306, 368032, 14806, 11786, 482, 370232, 586, 307732, 230023086, 43556, 2, 57732, 2306, 33961786, 34710586, 55532, 55536, 86, 43036, 1088982, 1732],
  [2684, 18186546, 542356, 41949046, 34, 106, 41948606, 29096, 66596, 46, 30284, 67356, 2886546, 6, 184, 185346, 186534, 115842796, 4096, 4448606, 4856, 296, 2886106, 284, 12059, 151731, 3793309, 21, 481, 14671, 8420921, 14659, 152171, 9, 9169721, 13471, 1, 43309, 933421, 2171, 932981, 971, 1731, 23324559, 59, 608421, 1357221, 2159, 73606, 2356, 58934, 4, 38466596, 45855296, 74046, 61546, 1840184, 61534, 96, 2934, 0, 6792796, 11106, 217796, 346, 8606, 277684, 215184, 434, 217784, 11546, 136122846]]
def codesB : List (List Nat) := [[0, 6212, 242, 342788, 13712, 8421442, 152692, 152688, 15192, 155288, 538, 95432742, 30288, 2, 2692, 608942, 2688, 15186538, 1212, 1492, 1682742, 933942, 38, 607462, 4515192, 75152692, 186538, 7742, 288, 12, 120242, 192, 4513712, 2951212, 7462, 188, 3087, 60587, 3, 77163, 2413, 74567, 62067, 45855817, 117, 74563, 1514663, 46604617, 14663, 12067, 587, 6793317, 5420913, 216837, 17, 13, 7542117, 12063, 218317, 10867, 26324567, 2163, 33812067, 998087, 54337, 42117, 33810587, 87, 43313, 67, 54617, 63],
  [2742, 1684288, 30538, 4, 1242, 19086548, 3038, 2694, 48, 1713944, 1683992, 1899048, 0, 94652742, 242, 194, 121492, 121788, 298, 186788, 336548, 151444, 538, 7492, 1444, 2, 24048, 903038, 15030538, 944, 902742, 1492, 601242, 1548, 38, 590242, 12117, 14913, 12413, 7573319, 9320923, 385819, 9171163, 366867, 23, 617, 19, 14673, 45824617, 43367, 3, 73319, 2413, 2173, 1508423, 43663, 117, 1358663, 69, 54367, 10819, 8423, 6762117, 10923, 319, 199617, 17, 13, 210617, 5264913, 6762413, 10867],
  [8421444, 214243048, 15194, 336798, 9495244, 24, 13474, 9495248, 244, 548, 155298, 248, 24298, 608944, 1494, 4, 18930548, 1498, 1682744, 2694, 48, 974, 936548, 1682748, 0, 7748, 180548, 194, 118048, 4515194, 298, 7744, 120248, 7224, 120244, 75155298, 46604619, 1929099, 45858423, 2423, 77173, 73369, 119, 99, 62069, 48227423, 73373, 123, 8673, 10869, 7542119, 349, 10873, 366599, 218319, 6795923, 23, 9164923, 19, 14673, 1599, 39923, 3, 54099, 42119, 2173, 42123, 33812069, 1352423, 54619, 69, 26327173],
  [1, 30537, 3037, 75961, 1211, 68557, 68561, 42107211, 763461, 31057, 107, 42099807, 13461, 6057, 11, 3044711, 7, 186787, 4669711, 537, 3037307, 187307, 6061, 7461, 22575961, 961, 22568557, 968037, 37307, 38711, 57, 61, 23607, 14756061, 37311, 37, 0, 15436, 302936, 15432, 302932, 9171682, 14912, 482, 372836, 586, 310336, 229279086, 2932, 2, 60336, 1359182, 2936, 33966586, 1084182, 1084186, 86, 2412, 1091586, 1732, 5265432, 131622836, 432, 4990436, 273086, 12, 336, 271686, 7982, 8662, 4990432, 436],
  [6107, 13711, 336857, 21, 8419961, 379809, 8569721, 6211, 3817309, 9, 607, 13471, 1, 37357, 42068607, 67309, 1211, 971, 607461, 24357, 59, 757221, 107, 37461, 4809, 7221, 11, 180607, 7, 193607, 309, 3006107, 4721, 3006211, 4513711, 7461, 60586, 1834336, 2982, 4, 2482, 37866596, 1864184, 1929096, 1834232, 3086, 96, 2934, 0, 229123086, 216836, 366596, 346, 271836, 271732, 482, 434, 586, 301684, 8732, 54096, 2, 1684, 1053086, 33810586, 2184, 1596, 998086, 86, 1052982, 1352482, 1732],
  [42107221, 1899049, 42848609, 1221, 75971, 67359, 47476221, 121, 67371, 109, 31059, 49, 7471, 4859, 3044721, 21, 187309, 336549, 4871, 3786109, 299, 9, 8413721, 13471, 1, 38721, 1549, 24049, 36109, 971, 23609, 22575971, 59, 36121, 601221, 15031059, 9171684, 233023096, 9645496, 484, 14674, 24, 9645484, 15434, 366846, 310346, 596, 496, 1734, 1359184, 54346, 4, 37710596, 1746, 2174, 1832996, 1091596, 1832984, 96, 2934, 0, 7996, 7984, 270496, 346, 5265434, 273096, 210596, 434, 270484, 8424, 169060346]]
def allOk (bk : List Cl) (cs : List (List Nat)) : Bool := (bk.zip cs).all (fun y => decide ((tgts bk y.1).length = y.2.length) && ((tgts bk y.1).zip y.2).all (okW bk y.1))
theorem allA : allOk blkA codesA = true := by decide +kernel
theorem allB : allOk blkB codesB = true := by decide +kernel
theorem wdOf_len : ∀ f n, (wdOf f n).length ≤ f
  | 0, _ => Nat.le_refl _
  | f + 1, n => by
    unfold wdOf
    split
    · simp
    · rw [List.length_cons]
      have := wdOf_len f (n / 5)
      omega
theorem zip_mem {α β : Type} : ∀ {l : List α} {m : List β} {x : α}, l.length = m.length → x ∈ l → ∃ y, (x, y) ∈ l.zip m
  | [], _, _, _, h => absurd h (by simp)
  | a :: l, [], _, hl, _ => by simp at hl
  | a :: l, b :: m, x, hl, h => by
    rcases List.mem_cons.1 h with rfl | h
    · exact ⟨b, by simp⟩
    · obtain ⟨y, hy⟩ := zip_mem (l := l) (m := m) (by simpa using hl) h
      exact ⟨y, by rw [List.zip_cons_cons]; exact List.mem_cons_of_mem _ hy⟩
theorem in_blk {bk : List Cl} {cs : List (List Nat)} (hl : bk.length = cs.length) (h : allOk bk cs = true) {a b : Cl} (ha : a ∈ bk) (hb : b ∈ bk) {p : D} (hp : p ∈ ways) (hc : clsG b p = clsG a unitD) : ∃ v : W4, v.length ≤ 12 ∧ vaW (fun c => decide (c ∈ bk)) a v = true ∧ ecW a v = b ∧ edW unitD v = p := by
  obtain ⟨c, hac⟩ := zip_mem hl ha
  have h1 := List.all_eq_true.1 h _ hac
  rw [Bool.and_eq_true, decide_eq_true_eq] at h1
  have ht : (b, p) ∈ tgts bk a := List.mem_flatMap.2 ⟨b, hb, List.mem_map.2 ⟨p, List.mem_filter.2 ⟨hp, by rw [hc]; exact beq_self_eq_true _⟩, rfl⟩⟩
  obtain ⟨n, hn⟩ := zip_mem h1.1 ht
  have h2 := List.all_eq_true.1 h1.2 _ hn
  unfold okW at h2
  rw [Bool.and_eq_true, Bool.and_eq_true, decide_eq_true_eq, decide_eq_true_eq] at h2
  exact ⟨wdOf 12 n, wdOf_len _ _, h2.1.1, h2.1.2, h2.2⟩

/-! ### From everywhere to everywhere, by a block -/
theorem pick_solve : ∀ p ∈ ways, ∀ q ∈ ways, ∃ r ∈ ways, pick p r = q := by decide +kernel
theorem ev_pick : ∀ p ∈ ways, ∀ r ∈ ways, evD (pick p r) = (evD p == evD r) := by decide +kernel
def atC (o a : Cl) : Cl := (o.1 + a.1, o.2 + a.2)
theorem cls_pick {o a b : Cl} {p r : D} (hp : p ∈ ways) (hr : r ∈ ways) (h : clsG (atC o b) (pick p r) = clsG (atC o a) p) : clsG b r = clsG a unitD := by
  unfold clsG at h ⊢
  rw [ev_pick p hp r hr] at h
  have eu : evD unitD = true := by decide
  rw [eu]
  have pa : decide (((atC o a).1 + (atC o a).2) % 2 = 0) = (decide ((o.1 + o.2) % 2 = 0) == decide ((a.1 + a.2) % 2 = 0)) := by
    show decide ((o.1 + a.1 + (o.2 + a.2)) % 2 = 0) = _
    by_cases h1 : (o.1 + o.2) % 2 = 0 <;> by_cases h2 : (a.1 + a.2) % 2 = 0
    · rw [decide_eq_true h1, decide_eq_true h2, decide_eq_true (by omega)]; rfl
    · rw [decide_eq_true h1, decide_eq_false h2, decide_eq_false (by omega)]; rfl
    · rw [decide_eq_false h1, decide_eq_true h2, decide_eq_false (by omega)]; rfl
    · rw [decide_eq_false h1, decide_eq_false h2, decide_eq_true (by omega)]; rfl
  have pb : decide (((atC o b).1 + (atC o b).2) % 2 = 0) = (decide ((o.1 + o.2) % 2 = 0) == decide ((b.1 + b.2) % 2 = 0)) := by
    show decide ((o.1 + b.1 + (o.2 + b.2)) % 2 = 0) = _
    by_cases h1 : (o.1 + o.2) % 2 = 0 <;> by_cases h2 : (b.1 + b.2) % 2 = 0
    · rw [decide_eq_true h1, decide_eq_true h2, decide_eq_true (by omega)]; rfl
    · rw [decide_eq_true h1, decide_eq_false h2, decide_eq_false (by omega)]; rfl
    · rw [decide_eq_false h1, decide_eq_true h2, decide_eq_false (by omega)]; rfl
    · rw [decide_eq_false h1, decide_eq_false h2, decide_eq_true (by omega)]; rfl
  rw [pa, pb] at h
  revert h
  cases evD p <;> cases evD r <;> cases decide ((o.1 + o.2) % 2 = 0) <;> cases decide ((a.1 + a.2) % 2 = 0) <;> cases decide ((b.1 + b.2) % 2 = 0) <;> decide
theorem va_shift {fl : Cl → Bool} {bk : List Cl} {o : Cl} (hf : ∀ x ∈ bk, fl (atC o x) = true) : ∀ (v : W4) (a : Cl), vaW (fun c => decide (c ∈ bk)) a v = true → vaW fl (atC o a) v = true
  | [], _, _ => rfl
  | j :: v, a, h => by
    have h' : (mvC j a) ∈ bk ∧ vaW (fun c => decide (c ∈ bk)) (mvC j a) v = true := by
      have : (decide (mvC j a ∈ bk) && vaW (fun c => decide (c ∈ bk)) (mvC j a) v) = true := h
      simpa using this
    have e : mvC j (atC o a) = atC o (mvC j a) := mv_shift j o a
    show (fl (mvC j (atC o a)) && vaW fl (mvC j (atC o a)) v) = true
    rw [e, hf _ h'.1, va_shift hf v _ h'.2]
    rfl
section
variable {fl : Cl → Bool} {R : List Cl} {far : Cl → D → Option Nat} {c0 : Cl} {d0 : D}
theorem Geo.onR (h : Geo fl R far c0 d0) {c : Cl} {d : D} {n : Nat} (hf : far c d = some n) {u : W4} (hv : vaW fl c u = true) (i : Nat) : ecW c (u.take i) ∈ R := by
  obtain ⟨m, hm, _⟩ := h.run (u.take i) c d n hf (va_take i hv).1
  exact h.cells _ _ _ hm
theorem Geo.flR (h : Geo fl R far c0 d0) {c : Cl} (hc : c ∈ R) : fl c = true := by
  obtain ⟨d, n, hf⟩ := h.any c hc
  obtain ⟨u, _, hv, e, _⟩ := h.word c d n hf
  rw [← e]
  exact va_end fl u c0 h.home hv
/-- A word from a labelled state to a block. -/
theorem Geo.toBlk (h : Geo fl R far c0 d0) {bk : List Cl} {o : Cl} (hb : ∀ x ∈ bk, atC o x ∈ R) (hne : bk ≠ []) (hnd : (bk.map (atC o)).Nodup) {c : Cl} {d : D} {n : Nat} (hf : far c d = some n) : ∃ v : W4, vaW fl c v = true ∧ (∃ x ∈ bk, ecW c v = atC o x) ∧ v.length + bk.length ≤ R.length := by
  obtain ⟨x, hx⟩ := List.exists_mem_of_ne_nil bk hne
  obtain ⟨d1, n1, hf1⟩ := h.any _ (hb x hx)
  obtain ⟨u1, _, hv1, e1, _⟩ := h.word _ _ _ hf1
  obtain ⟨u2, _, hv2, e2, _⟩ := h.word _ _ _ hf
  have hr := va_rev fl u2 c0 h.home hv2
  have er : ecW (ecW c0 u2) (revW u2) = c0 := ec_rev u2 c0
  rw [e2] at hr er
  have hv : vaW fl c (revW u2 ++ u1) = true := by rw [vaW_append, hr, er, hv1]; rfl
  have he : ecW c (revW u2 ++ u1) = atC o x := by rw [ecW_append, er, e1]
  obtain ⟨v, a1, a2, a3⟩ := short_way fl (fun y => decide (y ∈ bk.map (atC o))) R _ (revW u2 ++ u1) c (Nat.le_refl _) (fun i _ => h.onR hf hv i) hv (decide_eq_true (by rw [he]; exact List.mem_map.2 ⟨x, hx, rfl⟩))
  refine ⟨v, a1, ?_, ?_⟩
  · obtain ⟨y, hy, e⟩ := List.mem_map.1 (of_decide_eq_true a2)
    exact ⟨y, hy, e.symm⟩
  · have hsum : (R.filter (fun y => !decide (y ∈ bk.map (atC o)))).length + (bk.map (atC o)).length ≤ R.length := by
      rw [← List.length_append]
      refine nodup_le _ _ (List.nodup_append.2 ⟨h.nodup.filter _, hnd, fun y hy z hz e => ?_⟩) (fun y hy => ?_)
      · subst e
        have := (List.mem_filter.1 hy).2
        simp only [Bool.not_eq_true', decide_eq_false_iff_not] at this
        exact this hz
      · rcases List.mem_append.1 hy with hy | hy
        · exact (List.mem_filter.1 hy).1
        · obtain ⟨z, hz, rfl⟩ := List.mem_map.1 hy
          exact hb z hz
    rw [List.length_map] at hsum
    omega
theorem Geo.near (h : Geo fl R far c0 d0) {bk : List Cl} {cs : List (List Nat)} {o : Cl} (hl : bk.length = cs.length) (hok : allOk bk cs = true) (hb : ∀ x ∈ bk, atC o x ∈ R) (hne : bk ≠ []) (hnd : (bk.map (atC o)).Nodup) {c : Cl} {d : D} {n : Nat} (hf : far c d = some n) : n + 2 * bk.length ≤ 2 * R.length + 12 := by
  obtain ⟨u, hu, hv, eu, ed⟩ := h.word c d n hf
  obtain ⟨v1, a1, ⟨x1, hx1, e1⟩, l1⟩ := h.toBlk hb hne hnd h.zero
  obtain ⟨v3, a3, ⟨x3, hx3, e3⟩, l3⟩ := h.toBlk hb hne hnd hf
  have w1 := edW_ways v1 unitD unit_ways
  have w3 := edW_ways v3 _ (edW_ways u unitD unit_ways)
  obtain ⟨r, hr, er⟩ := pick_solve _ w1 _ w3
  have k1 : clsG (atC o x1) (edW unitD v1) = clsG c0 unitD := by rw [← e1]; exact cls_word v1 c0 unitD unit_ways
  have k3 : clsG (atC o x3) (edW (edW unitD u) v3) = clsG c0 unitD := by
    rw [← e3, cls_word v3 c _ (edW_ways u unitD unit_ways), ← eu]
    exact cls_word u c0 unitD unit_ways
  obtain ⟨v2, l2, a2, e2, f2⟩ := in_blk hl hok hx1 hx3 hr (cls_pick (o := o) w1 hr (by rw [er, k3, k1]))
  have a2' := va_shift (fl := fl) (o := o) (fun x hx => h.flR (hb x hx)) v2 x1 a2
  have e2' : ecW (atC o x1) v2 = atC o x3 := by
    have := ec_shift v2 o x1
    rw [e2] at this
    exact this
  have hc : fl c = true := h.flR (h.cells _ _ _ hf)
  have a3' := va_rev fl v3 c hc a3
  have e3' := ec_rev v3 c
  rw [e3] at a3' e3'
  have hva : vaW fl c0 (v1 ++ (v2 ++ revW v3)) = true := by
    rw [vaW_append, vaW_append, a1, e1, a2', e2', a3']
    rfl
  have hec : ecW c0 (v1 ++ (v2 ++ revW v3)) = c := by rw [ecW_append, ecW_append, e1, e2', e3']
  have hed : edW d0 (v1 ++ (v2 ++ revW v3)) = d := by
    have g : edW unitD (v1 ++ (v2 ++ revW v3)) = edW unitD u := by
      rw [edW_append, edW_append, edW_unit (edW unitD v1) v2, f2, er]
      exact ed_rev v3 _
    rw [edW_unit d0, g, ← edW_unit, ed]
  obtain ⟨m, hm, hle⟩ := h.run _ c0 d0 0 h.zero hva
  rw [hec, hed, hf] at hm
  have := Option.some.inj hm
  simp only [List.length_append, revW_len] at hle
  omega
end
/-! ### A block lies in what is reached -/
theorem pigeon (bs : List (List Cl)) (rest R : List Cl) (hn : R.Nodup) (h6 : ∀ b ∈ bs, b.length = 6) (hs : ∀ c ∈ R, c ∈ bs.flatten ++ rest) (hbig : 5 * bs.length + rest.length < R.length) : ∃ b ∈ bs, ∀ x ∈ b, x ∈ R := by
  refine Classical.byContradiction fun hno => ?_
  have h5 : ∀ b ∈ bs, (b.filter (fun x => decide (x ∈ R))).length ≤ 5 := fun b hb => by
    have hle := List.length_filter_le (fun x => decide (x ∈ R)) b
    rw [h6 b hb] at hle
    by_cases h : (b.filter (fun x => decide (x ∈ R))).length = 6
    · exfalso
      apply hno
      refine ⟨b, hb, fun x hx => ?_⟩
      have := (List.length_filter_eq_length_iff.1 (h.trans (h6 b hb).symm)) x hx
      exact of_decide_eq_true this
    · omega
  have hf : ∀ (l : List (List Cl)), (∀ b ∈ l, b ∈ bs) → ((l.map (fun b => b.filter (fun x => decide (x ∈ R)))).flatten).length ≤ 5 * l.length := by
    intro l
    induction l with
    | nil => intro _; simp
    | cons b l ih =>
      intro hb
      rw [List.map_cons, List.flatten_cons, List.length_append, List.length_cons]
      have := ih (fun x hx => hb x (List.mem_cons_of_mem _ hx))
      have := h5 b (hb b (List.mem_cons_self ..))
      omega
  have hle : R.length ≤ ((bs.map (fun b => b.filter (fun x => decide (x ∈ R)))).flatten ++ rest).length := by
    refine nodup_le _ _ hn (fun c hc => ?_)
    rcases List.mem_append.1 (hs c hc) with h | h
    · obtain ⟨b, hb, hcb⟩ := List.mem_flatten.1 h
      refine List.mem_append_left _ (List.mem_flatten.2 ⟨_, List.mem_map.2 ⟨b, hb, rfl⟩, List.mem_filter.2 ⟨hcb, decide_eq_true hc⟩⟩)
    · exact List.mem_append_right _ h
  rw [List.length_append] at hle
  have := hf bs (fun b hb => hb)
  omega
def bsOf (l : List (Bool × Cl)) : List (List Cl) := l.map (fun x => (if x.1 then blkA else blkB).map (atC x.2))
def bs66 : List (Bool × Cl) := [(true, (0, 0)), (true, (2, 0)), (true, (4, 0)), (true, (0, 3)), (true, (2, 3)), (true, (4, 3))]
def bs57 : List (Bool × Cl) := [(true, (0, 0)), (true, (0, 3)), (false, (2, 0)), (false, (2, 2)), (false, (2, 4))]
def bs75 : List (Bool × Cl) := [(false, (0, 0)), (false, (3, 0)), (true, (0, 2)), (true, (2, 2)), (true, (4, 2))]
def gridC (W H : Nat) : List Cl := (List.range W).flatMap (fun (i : Nat) => (List.range H).map (fun (j : Nat) => (((i : Nat) : Int), ((j : Nat) : Int))))
theorem grid_len (W H : Nat) : (gridC W H).length = W * H := by
  have := prodL_len (List.range H) (List.range W)
  rw [List.length_range, List.length_range] at this
  rw [← this]
  unfold gridC prodL
  simp [List.length_flatMap]
theorem mem_grid {W H : Nat} {c : Cl} (h : 0 ≤ c.1 ∧ c.1 < W ∧ 0 ≤ c.2 ∧ c.2 < H) : c ∈ gridC W H := by
  refine List.mem_flatMap.2 ⟨c.1.toNat, List.mem_range.2 (by omega), List.mem_map.2 ⟨c.2.toNat, List.mem_range.2 (by omega), Prod.ext ?_ ?_⟩⟩
  · show ((c.1.toNat : Nat) : Int) = c.1; omega
  · show ((c.2.toNat : Nat) : Int) = c.2; omega
theorem cov66 : ∀ c ∈ gridC 6 6, c ∈ (bsOf bs66).flatten ++ [] := by decide +kernel
theorem cov57 : ∀ c ∈ gridC 5 7, c ∈ (bsOf bs57).flatten ++ [(0, 6), (1, 6), (2, 6), (3, 6), (4, 6)] := by decide +kernel
theorem cov75 : ∀ c ∈ gridC 7 5, c ∈ (bsOf bs75).flatten ++ [(6, 0), (6, 1), (6, 2), (6, 3), (6, 4)] := by decide +kernel
theorem six_all : ∀ l ∈ [bs66, bs57, bs75], ∀ b ∈ bsOf l, b.length = 6 := by decide +kernel
theorem has_blk {R : List Cl} {W H : Nat} (hn : R.Nodup) (hW : W ≤ 7) (hH : H ≤ 7) (hWH : W * H ≤ 36) (hR : ∀ c ∈ R, 0 ≤ c.1 ∧ c.1 < W ∧ 0 ≤ c.2 ∧ c.2 < H) (hbig : 31 ≤ R.length) : ∃ (t : Bool) (o : Cl), ∀ x ∈ (if t then blkA else blkB), atC o x ∈ R := by
  have hg : ∀ c ∈ R, c ∈ gridC W H := fun c hc => mem_grid (hR c hc)
  have hle := nodup_le _ _ hn hg
  rw [grid_len] at hle
  have key : ∀ (l : List (Bool × Cl)) (rest : List Cl), l ∈ [bs66, bs57, bs75] → (∀ c ∈ R, c ∈ (bsOf l).flatten ++ rest) → 5 * l.length + rest.length < R.length → ∃ (t : Bool) (o : Cl), ∀ x ∈ (if t then blkA else blkB), atC o x ∈ R := by
    intro l rest hl hs hb
    obtain ⟨b, hb1, hb2⟩ := pigeon (bsOf l) rest R hn (six_all l hl) hs (by unfold bsOf; rw [List.length_map]; exact hb)
    obtain ⟨y, _, rfl⟩ := List.mem_map.1 hb1
    exact ⟨y.1, y.2, fun x hx => hb2 _ (List.mem_map.2 ⟨x, hx, rfl⟩)⟩
  have hcase : (W = 6 ∧ H = 6) ∨ (W = 5 ∧ H = 7) ∨ (W = 7 ∧ H = 5) := by
    have h7 : W = 0 ∨ W = 1 ∨ W = 2 ∨ W = 3 ∨ W = 4 ∨ W = 5 ∨ W = 6 ∨ W = 7 := by omega
    rcases h7 with rfl | rfl | rfl | rfl | rfl | rfl | rfl | rfl <;> omega
  rcases hcase with ⟨rfl, rfl⟩ | ⟨rfl, rfl⟩ | ⟨rfl, rfl⟩
  · exact key bs66 [] (by simp) (fun c hc => cov66 c (hg c hc)) (by show 30 < _; omega)
  · exact key bs57 _ (by simp) (fun c hc => cov57 c (hg c hc)) (by show 30 < _; omega)
  · exact key bs75 _ (by simp) (fun c hc => cov75 c (hg c hc)) (by show 30 < _; omega)
theorem atC_inj (o : Cl) {a b : Cl} (h : atC o a = atC o b) : a = b := by
  have h1 := congrArg (·.1) h
  have h2 := congrArg (·.2) h
  simp only [atC] at h1 h2
  exact Prod.ext (by omega) (by omega)
theorem pow_two (a b : Nat) (h : a ≤ b + b) : 3 ^ a ≤ 3 ^ b * 3 ^ b := by
  rw [← Nat.pow_add]
  exact Nat.pow_le_pow_right (by decide) h
/-- Fewer shortest words than an int holds lead to a cell at one distance. -/
theorem Geo.bound {fl : Cl → Bool} {R : List Cl} {far : Cl → D → Option Nat} {c0 : Cl} {d0 : D} (h : Geo fl R far c0 d0) {W H : Nat} (hW : W ≤ 7) (hH : H ≤ 7) (hWH : W * H ≤ 36) (hR : ∀ c ∈ R, 0 ≤ c.1 ∧ c.1 < W ∧ 0 ≤ c.2 ∧ c.2 < H) {ws : List W4} (hnd : ws.Nodup) (n : Nat) (e : Cl) (hw : ∀ w ∈ ws, isPath fl far c0 d0 w ∧ w.length = n) (he : ∀ w ∈ ws, ecW c0 w = e) : ws.length < 2 ^ 64 := by
  have hRle : R.length ≤ 36 := by
    have := nodup_le _ _ h.nodup (fun c hc => mem_grid (hR c hc))
    rw [grid_len] at this
    omega
  by_cases hn : n < 2
  · have hsmall : ws.length ≤ ([[], [0], [1], [2], [3]] : List W4).length := by
      refine nodup_le _ _ hnd (fun w hw' => ?_)
      have hl := (hw w hw').2
      match w, hl with
      | [], _ => simp
      | [x], _ => rcases four x with rfl | rfl | rfl | rfl <;> simp
      | x :: y :: r, hl => simp only [List.length_cons] at hl; omega
    exact Nat.lt_of_le_of_lt hsmall (by decide)
  have t := h.three hnd n e hw he (by omega)
  have hsum := sum_vG (R := R) (far := far) (c0 := c0) (d0 := d0) n
  refine Nat.lt_of_not_le fun hbig => ?_
  have hc := Nat.mul_le_mul (Nat.mul_le_mul hbig hbig) hbig
  have hc2 := Nat.le_trans hc t
  by_cases hR30 : R.length ≤ 30
  · have p3 := pi_three (vG R far c0 d0) n
    have p4 : 3 ^ suV (vG R far c0 d0) n ≤ (3 ^ 180) * (3 ^ 180) := pow_two _ 180 (by omega)
    have hx := Nat.mul_le_mul (Nat.mul_le_mul hc2 hc2) hc2
    have hy : 2 * piV (vG R far c0 d0) n * (2 * piV (vG R far c0 d0) n) * (2 * piV (vG R far c0 d0) n) = 8 * (piV (vG R far c0 d0) n * piV (vG R far c0 d0) n * piV (vG R far c0 d0) n) := by
      generalize piV (vG R far c0 d0) n = q
      rw [show 8 = 2 * 2 * 2 from rfl]
      ac_rfl
    rw [hy] at hx
    have hz := Nat.le_trans hx (Nat.mul_le_mul_left 8 (Nat.le_trans p3 p4))
    revert hz
    decide +kernel
  · obtain ⟨tt, o, hb⟩ := has_blk h.nodup hW hH hWH hR (by omega)
    have hn72 : n ≤ 72 := by
      cases hws : ws with
      | nil => rw [hws] at hbig; exact absurd hbig (by decide)
      | cons w l =>
        have hp := (hw w (by rw [hws]; simp)).1.2
        rw [(hw w (by rw [hws]; simp)).2] at hp
        cases tt
        · have := h.near (cs := codesB) (o := o) rfl allB hb (by decide) (nodup_mapB _ _ (by decide) (fun a _ b _ e => atC_inj o e)) hp
          have e6 : blkB.length = 6 := rfl
          omega
        · have := h.near (cs := codesA) (o := o) rfl allA hb (by decide) (nodup_mapB _ _ (by decide) (fun a _ b _ e => atC_inj o e)) hp
          have e6 : blkA.length = 6 := rfl
          omega
    have p6 := pi_six' (vG R far c0 d0) n 72 432 rfl hn72 (by omega)
    have hz := Nat.le_trans hc2 (Nat.mul_le_mul_left 2 p6)
    revert hz
    decide +kernel
end Go.Proofs.YthdkhikkdcjifaaDoor
