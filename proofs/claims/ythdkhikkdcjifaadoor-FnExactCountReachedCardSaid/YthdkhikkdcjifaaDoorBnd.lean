/- Words of rolls over cells: what they do to cells and dice. Mathematics for the bound on the number of shortest words. No Go in sight. -/
import Derived.Test.YthdkhikkdcjifaaDoorPure
namespace Go.Proofs.YthdkhikkdcjifaaDoor
set_option maxRecDepth 100000
set_option linter.all false

abbrev Cl := Int × Int
abbrev W4 := List (Fin 4)
def mvC (j : Fin 4) (c : Cl) : Cl := if j = 0 then (c.1, c.2 - 1) else if j = 1 then (c.1 + 1, c.2) else if j = 2 then (c.1, c.2 + 1) else (c.1 - 1, c.2)
def rlD (j : Fin 4) (d : D) : D := rollK (j.val : Int) d
def ecW (c : Cl) (u : W4) : Cl := u.foldl (fun c j => mvC j c) c
def edW (d : D) (u : W4) : D := u.foldl (fun d j => rlD j d) d
/-- All cells behind the first one are floor. -/
def vaW (fl : Cl → Bool) : Cl → W4 → Bool
  | _, [] => true
  | c, j :: u => fl (mvC j c) && vaW fl (mvC j c) u
def opp (j : Fin 4) : Fin 4 := j + 2
def revW (u : W4) : W4 := (u.map opp).reverse

theorem four : ∀ j : Fin 4, j = 0 ∨ j = 1 ∨ j = 2 ∨ j = 3 := by decide
theorem ecW_nil (c : Cl) : ecW c [] = c := rfl
theorem ecW_cons (c : Cl) (j : Fin 4) (u : W4) : ecW c (j :: u) = ecW (mvC j c) u := rfl
theorem edW_cons (d : D) (j : Fin 4) (u : W4) : edW d (j :: u) = edW (rlD j d) u := rfl
theorem ecW_append (c : Cl) (u v : W4) : ecW c (u ++ v) = ecW (ecW c u) v := by unfold ecW; rw [List.foldl_append]
theorem edW_append (d : D) (u v : W4) : edW d (u ++ v) = edW (edW d u) v := by unfold edW; rw [List.foldl_append]
theorem vaW_append (fl : Cl → Bool) : ∀ (u v : W4) (c : Cl), vaW fl c (u ++ v) = (vaW fl c u && vaW fl (ecW c u) v)
  | [], v, c => by simp [vaW, ecW_nil]
  | j :: u, v, c => by
    show (fl (mvC j c) && vaW fl (mvC j c) (u ++ v)) = _
    rw [vaW_append fl u v, ecW_cons]
    show _ = ((fl (mvC j c) && vaW fl (mvC j c) u) && _)
    rw [Bool.and_assoc]
theorem rlD_map (f : Int → Int) (j : Fin 4) (d : D) : rlD j (mapD f d) = mapD f (rlD j d) := by
  rcases four j with rfl | rfl | rfl | rfl <;> rfl
theorem edW_map (f : Int → Int) : ∀ (u : W4) (d : D), edW (mapD f d) u = mapD f (edW d u)
  | [], _ => rfl
  | j :: u, d => by rw [edW_cons, edW_cons, rlD_map, edW_map f u]
theorem edW_pick (d p : D) (u : W4) : edW (pick d p) u = pick d (edW p u) := edW_map _ u p
theorem edW_unit (d : D) (u : W4) : edW d u = pick d (edW unitD u) := by
  have := edW_pick d unitD u
  rwa [pick_unit] at this
theorem rlD_ways : ∀ p ∈ ways, ∀ j : Fin 4, rlD j p ∈ ways := by decide +kernel
theorem edW_ways : ∀ (u : W4) (p : D), p ∈ ways → edW p u ∈ ways
  | [], _, h => h
  | j :: u, p, h => edW_ways u (rlD j p) (rlD_ways p h j)
theorem unit_ways : unitD ∈ ways := by decide
theorem mv_opp (j : Fin 4) (c : Cl) : mvC (opp j) (mvC j c) = c := by
  rcases four j with rfl | rfl | rfl | rfl
  · show (c.1, c.2 - 1 + 1) = c; rw [Int.sub_add_cancel]
  · show (c.1 + 1 - 1, c.2) = c; rw [Int.add_sub_cancel]
  · show (c.1, c.2 + 1 - 1) = c; rw [Int.add_sub_cancel]
  · show (c.1 - 1 + 1, c.2) = c; rw [Int.sub_add_cancel]
theorem rl_opp (j : Fin 4) (d : D) : rlD (opp j) (rlD j d) = d := by
  rcases four j with rfl | rfl | rfl | rfl <;> rfl
theorem revW_cons (j : Fin 4) (u : W4) : revW (j :: u) = revW u ++ [opp j] := by simp [revW]
theorem revW_len (u : W4) : (revW u).length = u.length := by simp [revW]
theorem ec_rev : ∀ (u : W4) (c : Cl), ecW (ecW c u) (revW u) = c
  | [], _ => rfl
  | j :: u, c => by
    rw [revW_cons, ecW_append]
    show mvC (opp j) (ecW (ecW (mvC j c) u) (revW u)) = c
    rw [ec_rev u]
    exact mv_opp j c
theorem ed_rev : ∀ (u : W4) (d : D), edW (edW d u) (revW u) = d
  | [], _ => rfl
  | j :: u, d => by
    rw [revW_cons, edW_append]
    show rlD (opp j) (edW (edW (rlD j d) u) (revW u)) = d
    rw [ed_rev u]
    exact rl_opp j d
theorem va_rev (fl : Cl → Bool) : ∀ (u : W4) (c : Cl), fl c = true → vaW fl c u = true → vaW fl (ecW c u) (revW u) = true
  | [], _, _, _ => rfl
  | j :: u, c, h0, h => by
    have h' : fl (mvC j c) = true ∧ vaW fl (mvC j c) u = true := by
      have : (fl (mvC j c) && vaW fl (mvC j c) u) = true := h
      simpa using this
    rw [revW_cons, ecW_cons, vaW_append, va_rev fl u _ h'.1 h'.2, ec_rev]
    show (true && (fl (mvC (opp j) (mvC j c)) && true)) = true
    rw [mv_opp, h0]
    rfl
theorem va_end (fl : Cl → Bool) : ∀ (u : W4) (c : Cl), fl c = true → vaW fl c u = true → fl (ecW c u) = true
  | [], _, h0, _ => h0
  | j :: u, c, _, h => by
    have h' : fl (mvC j c) = true ∧ vaW fl (mvC j c) u = true := by
      have : (fl (mvC j c) && vaW fl (mvC j c) u) = true := h
      simpa using this
    exact va_end fl u _ h'.1 h'.2
/-- The same word from another cell. -/
theorem mv_shift (j : Fin 4) (a b : Cl) : mvC j (a.1 + b.1, a.2 + b.2) = (a.1 + (mvC j b).1, a.2 + (mvC j b).2) := by
  rcases four j with rfl | rfl | rfl | rfl
  · show (a.1 + b.1, a.2 + b.2 - 1) = (a.1 + b.1, a.2 + (b.2 - 1)); congr 1; omega
  · show (a.1 + b.1 + 1, a.2 + b.2) = (a.1 + (b.1 + 1), a.2 + b.2); congr 1; omega
  · show (a.1 + b.1, a.2 + b.2 + 1) = (a.1 + b.1, a.2 + (b.2 + 1)); congr 1; omega
  · show (a.1 + b.1 - 1, a.2 + b.2) = (a.1 + (b.1 - 1), a.2 + b.2); congr 1; omega
theorem ec_shift : ∀ (u : W4) (a b : Cl), ecW (a.1 + b.1, a.2 + b.2) u = (a.1 + (ecW b u).1, a.2 + (ecW b u).2)
  | [], _, _ => rfl
  | j :: u, a, b => by rw [ecW_cons, ecW_cons, mv_shift, ec_shift u]
theorem ec_zero (c : Cl) (u : W4) : ecW c u = (c.1 + (ecW (0, 0) u).1, c.2 + (ecW (0, 0) u).2) := by
  have := ec_shift u c (0, 0)
  simpa using this
/-- No roll is undone at once. -/
def nbW : W4 → Bool
  | a :: b :: u => (b != opp a) && nbW (b :: u)
  | _ => true
theorem uniq1 : ∀ a a' : Fin 4, ecW (0, 0) [a] = ecW (0, 0) [a'] → a = a' := by decide +kernel
theorem uniq2 : ∀ a b a' b' : Fin 4, nbW [a, b] = true → nbW [a', b'] = true → ecW (0, 0) [a, b] = ecW (0, 0) [a', b'] → edW unitD [a, b] = edW unitD [a', b'] → [a, b] = [a', b'] := by decide +kernel
theorem uniq3 : ∀ a b c a' b' c' : Fin 4, nbW [a, b, c] = true → nbW [a', b', c'] = true → ecW (0, 0) [a, b, c] = ecW (0, 0) [a', b', c'] → edW unitD [a, b, c] = edW unitD [a', b', c'] → [a, b, c] = [a', b', c'] := by decide +kernel
def horW (j : Fin 4) : Bool := decide (j = 1 ∨ j = 3)
theorem uniqH : ∀ a b a' b' : Fin 4, nbW [a, b] = true → nbW [a', b'] = true → ecW (0, 0) [a, b] = ecW (0, 0) [a', b'] → horW a = horW a' → [a, b] = [a', b'] := by decide +kernel
theorem uniq_any (v v' : W4) (hl : v.length = v'.length) (h3 : v.length ≤ 3) (h1 : nbW v = true) (h2 : nbW v' = true) (he : ecW (0, 0) v = ecW (0, 0) v') (hd : edW unitD v = edW unitD v') : v = v' := by
  match v, v', hl, h3 with
  | [], [], _, _ => rfl
  | [a], [a'], _, _ => rw [uniq1 a a' he]
  | [a, b], [a', b'], _, _ => exact uniq2 a b a' b' h1 h2 he hd
  | [a, b, c], [a', b', c'], _, _ => exact uniq3 a b c a' b' c' h1 h2 he hd
theorem pick_inj : ∀ p ∈ ways, ∀ q ∈ ways, ∀ q' ∈ ways, pick p q = pick p q' → q = q' := by decide +kernel
/-- Even dice among the twenty-four ways. -/
def evD (p : D) : Bool := (([(p.t, p.n), (p.t, p.e), (p.t, p.s), (p.t, p.w), (p.t, p.b), (p.n, p.e), (p.n, p.s), (p.n, p.w), (p.n, p.b), (p.e, p.s), (p.e, p.w), (p.e, p.b), (p.s, p.w), (p.s, p.b), (p.w, p.b)] : List (Int × Int)).countP (fun x => decide (x.2 < x.1))) % 2 == 0
theorem ev_roll : ∀ p ∈ ways, ∀ j : Fin 4, evD (rlD j p) = !evD p := by decide +kernel
theorem ev_count : ∀ b : Bool, (ways.filter (fun p => evD p == b)).length = 12 := by decide +kernel
/-- The class of a cell and a die: it does not change in rolls. -/
def clsG (c : Cl) (p : D) : Bool := evD p == decide ((c.1 + c.2) % 2 = 0)
theorem cls_roll (c : Cl) (p : D) (hp : p ∈ ways) (j : Fin 4) : clsG (mvC j c) (rlD j p) = clsG c p := by
  unfold clsG
  rw [ev_roll p hp j]
  have hx : decide (((mvC j c).1 + (mvC j c).2) % 2 = 0) = !decide ((c.1 + c.2) % 2 = 0) := by
    rcases four j with rfl | rfl | rfl | rfl
    · show decide ((c.1 + (c.2 - 1)) % 2 = 0) = _
      by_cases h : (c.1 + c.2) % 2 = 0
      · rw [decide_eq_true h, decide_eq_false (by omega)]; rfl
      · rw [decide_eq_false h, decide_eq_true (by omega)]; rfl
    · show decide ((c.1 + 1 + c.2) % 2 = 0) = _
      by_cases h : (c.1 + c.2) % 2 = 0
      · rw [decide_eq_true h, decide_eq_false (by omega)]; rfl
      · rw [decide_eq_false h, decide_eq_true (by omega)]; rfl
    · show decide ((c.1 + (c.2 + 1)) % 2 = 0) = _
      by_cases h : (c.1 + c.2) % 2 = 0
      · rw [decide_eq_true h, decide_eq_false (by omega)]; rfl
      · rw [decide_eq_false h, decide_eq_true (by omega)]; rfl
    · show decide ((c.1 - 1 + c.2) % 2 = 0) = _
      by_cases h : (c.1 + c.2) % 2 = 0
      · rw [decide_eq_true h, decide_eq_false (by omega)]; rfl
      · rw [decide_eq_false h, decide_eq_true (by omega)]; rfl
  rw [hx]
  cases evD p <;> cases decide ((c.1 + c.2) % 2 = 0) <;> rfl
theorem cls_word : ∀ (u : W4) (c : Cl) (p : D), p ∈ ways → clsG (ecW c u) (edW p u) = clsG c p
  | [], _, _, _ => rfl
  | j :: u, c, p, hp => by rw [ecW_cons, edW_cons, cls_word u _ _ (rlD_ways p hp j), cls_roll c p hp j]
theorem cls_count (c : Cl) (b : Bool) : (ways.filter (fun p => clsG c p == b)).length = 12 := by
  unfold clsG
  cases decide ((c.1 + c.2) % 2 = 0) <;> cases b
  · have := ev_count true
    simpa using this
  · have := ev_count false
    simpa using this
  · have := ev_count false
    simpa using this
  · have := ev_count true
    simpa using this

/-- The labels of a search: what is reached, and how far it lies. -/
structure Geo (fl : Cl → Bool) (R : List Cl) (far : Cl → D → Option Nat) (c0 : Cl) (d0 : D) : Prop where
  nodup : R.Nodup
  zero : far c0 d0 = some 0
  home : fl c0 = true
  cells : ∀ c d n, far c d = some n → c ∈ R
  any : ∀ c ∈ R, ∃ d n, far c d = some n
  roll : ∀ c d j n, far c d = some n → fl (mvC j c) = true → ∃ m, far (mvC j c) (rlD j d) = some m ∧ m ≤ n + 1
  word : ∀ c d n, far c d = some n → ∃ u : W4, u.length = n ∧ vaW fl c0 u = true ∧ ecW c0 u = c ∧ edW d0 u = d
def isPath (fl : Cl → Bool) (far : Cl → D → Option Nat) (c0 : Cl) (d0 : D) (u : W4) : Prop := vaW fl c0 u = true ∧ far (ecW c0 u) (edW d0 u) = some u.length
section
variable {fl : Cl → Bool} {R : List Cl} {far : Cl → D → Option Nat} {c0 : Cl} {d0 : D}
theorem Geo.run (h : Geo fl R far c0 d0) : ∀ (u : W4) (c : Cl) (d : D) (n : Nat), far c d = some n → vaW fl c u = true → ∃ m, far (ecW c u) (edW d u) = some m ∧ m ≤ n + u.length
  | [], c, d, n, hf, _ => ⟨n, hf, Nat.le_refl _⟩
  | j :: u, c, d, n, hf, hv => by
    have h' : fl (mvC j c) = true ∧ vaW fl (mvC j c) u = true := by
      have : (fl (mvC j c) && vaW fl (mvC j c) u) = true := hv
      simpa using this
    obtain ⟨m, hm, hle⟩ := h.roll c d j n hf h'.1
    obtain ⟨m', hm', hle'⟩ := Geo.run h u _ _ m hm h'.2
    exact ⟨m', hm', by simp only [List.length_cons]; omega⟩
theorem Geo.pre (h : Geo fl R far c0 d0) {a b : W4} (hp : isPath fl far c0 d0 (a ++ b)) : isPath fl far c0 d0 a := by
  obtain ⟨hv, hf⟩ := hp
  rw [vaW_append, Bool.and_eq_true] at hv
  obtain ⟨m, hm, hle⟩ := h.run a c0 d0 0 h.zero hv.1
  obtain ⟨m', hm', hle'⟩ := h.run b _ _ m hm hv.2
  rw [ecW_append, edW_append, hm', List.length_append] at hf
  have := Option.some.inj hf
  refine ⟨hv.1, ?_⟩
  rw [hm]
  congr 1
  omega
theorem Geo.noback (h : Geo fl R far c0 d0) {a b : W4} {x y : Fin 4} (hp : isPath fl far c0 d0 (a ++ x :: y :: b)) : y ≠ opp x := by
  intro hy
  subst hy
  have h1 := (h.pre (b := x :: opp x :: b) hp).2
  have h2 := (h.pre (a := a ++ [x, opp x]) (b := b) (by rw [List.append_assoc]; exact hp)).2
  rw [ecW_append, edW_append] at h2
  have e1 : ecW (ecW c0 a) [x, opp x] = ecW c0 a := mv_opp x _
  have e2 : edW (edW d0 a) [x, opp x] = edW d0 a := rl_opp x _
  rw [e1, e2, h1] at h2
  have := Option.some.inj h2
  simp at this
theorem nb_of : ∀ (u : W4), (∀ a x y b, u = a ++ x :: y :: b → y ≠ opp x) → nbW u = true
  | [], _ => rfl
  | [_], _ => rfl
  | x :: y :: u, h => by
    show ((y != opp x) && nbW (y :: u)) = true
    have h1 : y ≠ opp x := h [] x y u rfl
    rw [nb_of (y :: u) (fun a x' y' b e => h (x :: a) x' y' b (by rw [e]; rfl))]
    simp [h1]
theorem Geo.nb (h : Geo fl R far c0 d0) {a b : W4} (hp : isPath fl far c0 d0 (a ++ b)) : nbW b = true :=
  nb_of b (fun a' x y b' e => h.noback (a := a ++ a') (b := b') (by rw [List.append_assoc, ← e]; exact hp))
/-- Each once. -/
def dd : List W4 → List W4
  | [] => []
  | u :: l => if u ∈ dd l then dd l else u :: dd l
theorem mem_dd {x : W4} : ∀ {l : List W4}, x ∈ dd l ↔ x ∈ l
  | [] => Iff.rfl
  | u :: l => by
    unfold dd
    have ih := @mem_dd x l
    split
    · rename_i hu
      constructor
      · intro hx; exact List.mem_cons_of_mem _ (ih.1 hx)
      · intro hx
        rcases List.mem_cons.1 hx with rfl | hx
        · exact hu
        · exact ih.2 hx
    · rw [List.mem_cons, List.mem_cons, ih]
theorem dd_nodup : ∀ (l : List W4), (dd l).Nodup
  | [] => List.nodup_nil
  | u :: l => by
    unfold dd
    split
    · exact dd_nodup l
    · rename_i hu
      exact List.nodup_cons.2 ⟨hu, dd_nodup l⟩
def prodL {α β : Type} (A : List α) (B : List β) : List (α × β) := A.flatMap (fun a => B.map (fun b => (a, b)))
theorem prodL_len {α β : Type} (B : List β) : ∀ (A : List α), (prodL A B).length = A.length * B.length
  | [] => by simp [prodL]
  | a :: A => by
    have ih := prodL_len B A
    unfold prodL at ih ⊢
    rw [List.flatMap_cons, List.length_append, ih, List.length_map, List.length_cons, Nat.add_mul]
    omega
theorem mem_prodL {α β : Type} {A : List α} {B : List β} {a : α} {b : β} (ha : a ∈ A) (hb : b ∈ B) : (a, b) ∈ prodL A B :=
  List.mem_flatMap.2 ⟨a, ha, List.mem_map.2 ⟨b, hb, rfl⟩⟩
theorem nodup_mapB {α β : Type} (f : α → β) : ∀ (l : List α), l.Nodup → (∀ a ∈ l, ∀ b ∈ l, f a = f b → a = b) → (l.map f).Nodup
  | [], _, _ => List.nodup_nil
  | x :: l, hn, hi => by
    rw [List.map_cons, List.nodup_cons]
    rw [List.nodup_cons] at hn
    refine ⟨fun hx => ?_, nodup_mapB f l hn.2 (fun a ha b hb => hi a (List.mem_cons_of_mem _ ha) b (List.mem_cons_of_mem _ hb))⟩
    obtain ⟨y, hy, e⟩ := List.mem_map.1 hx
    exact hn.1 (hi y (List.mem_cons_of_mem _ hy) x (List.mem_cons_self ..) e ▸ hy)
/-- The generic states: a cell, and how the die is turned. -/
def baseG (R : List Cl) (c0 : Cl) : List (Cl × D) := R.flatMap (fun c => (ways.filter (fun p => clsG c p == clsG c0 unitD)).map (fun p => (c, p)))
theorem baseG_len (c0 : Cl) : ∀ (R : List Cl), (baseG R c0).length = 12 * R.length
  | [] => rfl
  | c :: R => by
    have ih := baseG_len c0 R
    unfold baseG at ih ⊢
    rw [List.flatMap_cons, List.length_append, ih, List.length_map, cls_count, List.length_cons]
    omega
def farG (far : Cl → D → Option Nat) (d0 : D) (x : Cl × D) : Option Nat := far x.1 (pick d0 x.2)
def VG (R : List Cl) (far : Cl → D → Option Nat) (c0 : Cl) (d0 : D) (i : Nat) : List (Cl × D) := (baseG R c0).filter (fun x => decide (farG far d0 x = some i))
theorem Geo.inV (h : Geo fl R far c0 d0) {u : W4} (hp : isPath fl far c0 d0 u) : (ecW c0 u, edW unitD u) ∈ VG R far c0 d0 u.length := by
  have hf : farG far d0 (ecW c0 u, edW unitD u) = some u.length := by
    show far (ecW c0 u) (pick d0 (edW unitD u)) = _
    rw [← edW_unit]
    exact hp.2
  refine List.mem_filter.2 ⟨List.mem_flatMap.2 ⟨ecW c0 u, h.cells _ _ _ hp.2, List.mem_map.2 ⟨edW unitD u, List.mem_filter.2 ⟨edW_ways u _ unit_ways, ?_⟩, rfl⟩⟩, decide_eq_true hf⟩
  rw [cls_word u c0 unitD unit_ways]
  exact beq_self_eq_true _
def pref (ws : List W4) (m : Nat) : List W4 := dd (ws.map (·.take m))
theorem mem_pref {ws : List W4} {m : Nat} {u : W4} : u ∈ pref ws m ↔ ∃ w ∈ ws, w.take m = u := by
  unfold pref
  rw [mem_dd, List.mem_map]
theorem ec_drop (c : Cl) (a v : W4) : ecW c (a ++ v) = ((ecW c a).1 + (ecW (0, 0) v).1, (ecW c a).2 + (ecW (0, 0) v).2) := by
  rw [ecW_append, ec_zero (ecW c a) v]
theorem Geo.step (h : Geo fl R far c0 d0) {ws : List W4} (n : Nat) (hw : ∀ w ∈ ws, isPath fl far c0 d0 w ∧ w.length = n) (m k : Nat) (hk : k ≤ 3) (hm : m + k ≤ n) : (pref ws (m + k)).length ≤ (pref ws m).length * (VG R far c0 d0 (m + k)).length := by
  have hpre : ∀ i, i ≤ n → ∀ u ∈ pref ws i, isPath fl far c0 d0 u ∧ u.length = i := by
    intro i hi u hu
    obtain ⟨w, hw1, rfl⟩ := mem_pref.1 hu
    obtain ⟨h1, h2⟩ := hw w hw1
    refine ⟨h.pre (b := w.drop i) (by rw [List.take_append_drop]; exact h1), ?_⟩
    rw [List.length_take]
    omega
  rw [← prodL_len, ← List.length_map (f := fun u : W4 => (u.take m, (ecW c0 u, edW unitD u))) (as := pref ws (m + k))]
  refine nodup_le _ _ (nodup_mapB _ _ (dd_nodup _) ?_) ?_
  · intro u hu u' hu' e
    obtain ⟨hp, hl⟩ := hpre _ hm u hu
    obtain ⟨hp', hl'⟩ := hpre _ hm u' hu'
    have e1 : u.take m = u'.take m := congrArg (·.1) e
    have e2 : ecW c0 u = ecW c0 u' := congrArg (·.2.1) e
    have e3 : edW unitD u = edW unitD u' := congrArg (·.2.2) e
    rw [← List.take_append_drop m u] at hp e2 e3
    rw [← List.take_append_drop m u', ← e1] at hp' e2 e3
    rw [ec_drop, ec_drop c0 _ (u'.drop m), Prod.mk.injEq] at e2
    rw [edW_append, edW_append _ _ (u'.drop m), edW_unit (edW unitD (u.take m)), edW_unit (edW unitD (u.take m)) (u'.drop m)] at e3
    have e3' := pick_inj _ (edW_ways (u.take m) _ unit_ways) _ (edW_ways (u.drop m) _ unit_ways) _ (edW_ways (u'.drop m) _ unit_ways) e3
    have e2' : ecW (0, 0) (u.drop m) = ecW (0, 0) (u'.drop m) := Prod.ext (by omega) (by omega)
    have := uniq_any (u.drop m) (u'.drop m) (by rw [List.length_drop, List.length_drop]; omega) (by rw [List.length_drop]; omega) (h.nb hp) (h.nb hp') e2' e3'
    rw [← List.take_append_drop m u, ← List.take_append_drop m u', e1, this]
  · intro x hx
    obtain ⟨u, hu, rfl⟩ := List.mem_map.1 hx
    obtain ⟨hp, hl⟩ := hpre _ hm u hu
    refine mem_prodL ?_ ?_
    · obtain ⟨w, hw1, rfl⟩ := mem_pref.1 hu
      exact mem_pref.2 ⟨w, hw1, by rw [List.take_take]; congr 1; omega⟩
    · have := h.inV hp
      rwa [hl] at this
/-! ### Products and sums of the layers -/
end
def piV (v : Nat → Nat) : Nat → Nat
  | 0 => 1
  | i + 1 => piV v i * v (i + 1)
def suV (v : Nat → Nat) : Nat → Nat
  | 0 => 0
  | i + 1 => suV v i + v (i + 1)
def uptoG (f : Option Nat) (k : Nat) : Bool := match f with
  | some i => decide (1 ≤ i ∧ i ≤ k)
  | none => false
theorem upto_succ {α : Type} (f : α → Option Nat) (k : Nat) : ∀ (l : List α), (l.filter (fun x => uptoG (f x) (k + 1))).length = (l.filter (fun x => uptoG (f x) k)).length + (l.filter (fun x => decide (f x = some (k + 1)))).length
  | [] => rfl
  | x :: l => by
    have ih := upto_succ f k l
    simp only [List.filter_cons]
    cases hx : f x with
    | none =>
      have a : uptoG (none : Option Nat) (k + 1) = false := rfl
      have b : uptoG (none : Option Nat) k = false := rfl
      have c : decide ((none : Option Nat) = some (k + 1)) = false := by simp
      rw [a, b, c]
      exact ih
    | some i =>
      by_cases h1 : i = k + 1
      · have a : uptoG (some i) (k + 1) = true := decide_eq_true (by omega)
        have b : uptoG (some i) k = false := decide_eq_false (by omega)
        have c : decide (some i = some (k + 1)) = true := by simp [h1]
        rw [a, b, c]
        simp only [if_true, Bool.false_eq_true, if_false, List.length_cons, ih]
        omega
      · have c : decide (some i = some (k + 1)) = false := by simp [h1]
        by_cases h2 : 1 ≤ i ∧ i ≤ k
        · have a : uptoG (some i) (k + 1) = true := decide_eq_true (by omega)
          have b : uptoG (some i) k = true := decide_eq_true h2
          rw [a, b, c]
          simp only [if_true, Bool.false_eq_true, if_false, List.length_cons, ih]
          omega
        · have a : uptoG (some i) (k + 1) = false := decide_eq_false (by omega)
          have b : uptoG (some i) k = false := decide_eq_false h2
          rw [a, b, c]
          exact ih
theorem sum_upto {α : Type} (f : α → Option Nat) (l : List α) : ∀ k, suV (fun i => (l.filter (fun x => decide (f x = some i))).length) k = (l.filter (fun x => uptoG (f x) k)).length
  | 0 => by
    have : l.filter (fun x => uptoG (f x) 0) = [] := by
      rw [List.filter_eq_nil_iff]
      intro x _ h
      cases hx : f x with
      | none => rw [hx] at h; exact absurd h (by simp [uptoG])
      | some i => rw [hx] at h; simp only [uptoG, decide_eq_true_eq] at h; omega
    rw [this]
    rfl
  | k + 1 => by
    rw [upto_succ, ← sum_upto f l k]
    rfl
theorem sum_le {α : Type} (f : α → Option Nat) (l : List α) (k : Nat) : suV (fun i => (l.filter (fun x => decide (f x = some i))).length) k ≤ l.length := by
  rw [sum_upto]
  exact List.length_filter_le _ _
theorem cube3 : ∀ w : Nat, w * w * w ≤ 3 ^ w
  | 0 => by decide
  | 1 => by decide
  | 2 => by decide
  | 3 => by decide
  | w + 4 => by
    have ih := cube3 (w + 3)
    have h : (w + 4) * (w + 4) * (w + 4) ≤ 3 * ((w + 3) * (w + 3) * (w + 3)) := by
      rw [show w + 4 = (w + 3) + 1 from rfl]
      have hx : 3 ≤ w + 3 := by omega
      revert hx
      generalize w + 3 = x
      intro hx
      have h2 : 3 * x ≤ x * x := Nat.mul_le_mul_right x hx
      have h3 : 3 * x * x ≤ x * x * x := Nat.mul_le_mul_right x h2
      rw [Nat.mul_assoc] at h3
      have e : (x + 1) * (x + 1) * (x + 1) = x * x * x + 3 * (x * x) + 3 * x + 1 := by
        simp only [Nat.add_mul, Nat.mul_add, Nat.mul_one, Nat.one_mul]
        omega
      rw [e]
      omega
    calc (w + 4) * (w + 4) * (w + 4) ≤ 3 * ((w + 3) * (w + 3) * (w + 3)) := h
      _ ≤ 3 * 3 ^ (w + 3) := Nat.mul_le_mul_left 3 ih
      _ = 3 ^ (w + 4) := by rw [show w + 4 = (w + 3) + 1 from rfl, Nat.pow_succ (n := 3) (m := w + 3)]; omega
theorem pi_three (v : Nat → Nat) : ∀ n, piV v n * piV v n * piV v n ≤ 3 ^ suV v n
  | 0 => by show 1 * 1 * 1 ≤ 3 ^ 0; decide
  | n + 1 => by
    have ih := pi_three v n
    show piV v n * v (n + 1) * (piV v n * v (n + 1)) * (piV v n * v (n + 1)) ≤ 3 ^ (suV v n + v (n + 1))
    rw [Nat.pow_add]
    have e : piV v n * v (n + 1) * (piV v n * v (n + 1)) * (piV v n * v (n + 1)) = (piV v n * piV v n * piV v n) * (v (n + 1) * v (n + 1) * v (n + 1)) := by ac_rfl
    rw [e]
    exact Nat.mul_le_mul ih (cube3 _)
theorem six7 : ∀ w : Nat, w * 6 ^ w * 7 ^ 6 ≤ 6 ^ 7 * 7 ^ w
  | 0 => by decide
  | 1 => by decide
  | 2 => by decide
  | 3 => by decide
  | 4 => by decide
  | 5 => by decide
  | 6 => by decide
  | w + 7 => by
    have ih := six7 (w + 6)
    have e1 : (w + 7) * 6 ^ (w + 7) * 7 ^ 6 = ((w + 7) * 6) * (6 ^ (w + 6) * 7 ^ 6) := by rw [show 6 ^ (w + 7) = 6 * 6 ^ (w + 6) from Nat.pow_succ' .. ]; ac_rfl
    have e2 : 6 ^ 7 * 7 ^ (w + 7) = 7 * (6 ^ 7 * 7 ^ (w + 6)) := by rw [show 7 ^ (w + 7) = 7 * 7 ^ (w + 6) from Nat.pow_succ' ..]; ac_rfl
    rw [e1, e2]
    calc (w + 7) * 6 * (6 ^ (w + 6) * 7 ^ 6) ≤ 7 * (w + 6) * (6 ^ (w + 6) * 7 ^ 6) := Nat.mul_le_mul_right _ (by omega)
      _ = 7 * ((w + 6) * 6 ^ (w + 6) * 7 ^ 6) := by ac_rfl
      _ ≤ _ := Nat.mul_le_mul_left 7 ih
theorem pi_six (v : Nat → Nat) : ∀ n, piV v n * 6 ^ suV v n * 7 ^ (6 * n) ≤ 6 ^ (7 * n) * 7 ^ suV v n
  | 0 => by show 1 * 6 ^ 0 * 7 ^ (6 * 0) ≤ 6 ^ (7 * 0) * 7 ^ 0; decide
  | n + 1 => by
    have ih := pi_six v n
    show piV v n * v (n + 1) * 6 ^ (suV v n + v (n + 1)) * 7 ^ (6 * n + 6) ≤ 6 ^ (7 * n + 7) * 7 ^ (suV v n + v (n + 1))
    rw [Nat.pow_add, Nat.pow_add, Nat.pow_add, Nat.pow_add]
    have e1 : piV v n * v (n + 1) * (6 ^ suV v n * 6 ^ v (n + 1)) * (7 ^ (6 * n) * 7 ^ 6) = (piV v n * 6 ^ suV v n * 7 ^ (6 * n)) * (v (n + 1) * 6 ^ v (n + 1) * 7 ^ 6) := by ac_rfl
    have e2 : 6 ^ (7 * n) * 6 ^ 7 * (7 ^ suV v n * 7 ^ v (n + 1)) = (6 ^ (7 * n) * 7 ^ suV v n) * (6 ^ 7 * 7 ^ v (n + 1)) := by ac_rfl
    rw [e1, e2]
    exact Nat.mul_le_mul ih (six7 _)
theorem pi_six' (v : Nat → Nat) (n N S : Nat) (hS : S = 6 * N) (hn : n ≤ N) (hs : suV v n ≤ S) : piV v n ≤ 6 ^ N := by
  have h := pi_six v n
  have a : 6 ^ (S - suV v n) ≤ 7 ^ (S - suV v n) := Nat.pow_le_pow_left (by decide) _
  have b : (7 ^ 6) ^ (N - n) ≤ (6 ^ 7) ^ (N - n) := Nat.pow_le_pow_left (by decide) _
  have h2 := Nat.mul_le_mul (Nat.mul_le_mul h a) b
  have e1 : piV v n * 6 ^ suV v n * 7 ^ (6 * n) * 6 ^ (S - suV v n) * (7 ^ 6) ^ (N - n) = piV v n * (6 ^ S * 7 ^ S) := by
    have x1 : 6 ^ S = 6 ^ suV v n * 6 ^ (S - suV v n) := by rw [← Nat.pow_add]; congr 1; omega
    have x2 : 7 ^ S = 7 ^ (6 * n) * (7 ^ 6) ^ (N - n) := by rw [← Nat.pow_mul, ← Nat.pow_add]; congr 1; omega
    rw [x1, x2]
    ac_rfl
  have e2 : 6 ^ (7 * n) * 7 ^ suV v n * 7 ^ (S - suV v n) * (6 ^ 7) ^ (N - n) = 6 ^ N * (6 ^ S * 7 ^ S) := by
    have x1 : 6 ^ N * 6 ^ S = 6 ^ (7 * n) * (6 ^ 7) ^ (N - n) := by rw [← Nat.pow_mul, ← Nat.pow_add, ← Nat.pow_add]; congr 1; omega
    have x2 : 7 ^ S = 7 ^ suV v n * 7 ^ (S - suV v n) := by rw [← Nat.pow_add]; congr 1; omega
    rw [← Nat.mul_assoc, x1, x2]
    ac_rfl
  rw [e1, e2] at h2
  exact Nat.le_of_mul_le_mul_right h2 (Nat.mul_pos (Nat.pow_pos (by decide)) (Nat.pow_pos (by decide)))
section
variable {fl : Cl → Bool} {R : List Cl} {far : Cl → D → Option Nat} {c0 : Cl} {d0 : D}
def vG (R : List Cl) (far : Cl → D → Option Nat) (c0 : Cl) (d0 : D) (i : Nat) : Nat := (VG R far c0 d0 i).length
theorem sum_vG (n : Nat) : suV (vG R far c0 d0) n ≤ 12 * R.length := by
  rw [← baseG_len c0 R]
  exact sum_le (farG far d0) (baseG R c0) n
theorem Geo.triple (h : Geo fl R far c0 d0) {ws : List W4} (n : Nat) (hw : ∀ w ∈ ws, isPath fl far c0 d0 w ∧ w.length = n) : ∀ m, m + 2 ≤ n → (pref ws m).length * (pref ws (m + 1)).length * (pref ws (m + 2)).length ≤ piV (vG R far c0 d0) (m + 2)
  | 0, hm => by
    have p0 : (pref ws 0).length ≤ 1 := by
      have : (pref ws 0).length ≤ [([] : W4)].length := nodup_le _ _ (dd_nodup _) (by
        intro u hu
        obtain ⟨w, _, rfl⟩ := mem_pref.1 hu
        simp)
      exact this
    have p1 := h.step n hw 0 1 (by omega) (by omega)
    have p2 := h.step n hw 0 2 (by omega) (by omega)
    have q1 : (pref ws 1).length ≤ vG R far c0 d0 1 := by
      have := Nat.le_trans p1 (Nat.mul_le_mul_right _ p0)
      simpa [vG] using this
    have q2 : (pref ws 2).length ≤ vG R far c0 d0 2 := by
      have := Nat.le_trans p2 (Nat.mul_le_mul_right _ p0)
      simpa [vG] using this
    exact Nat.mul_le_mul (Nat.mul_le_mul p0 q1) q2
  | m + 1, hm => by
    have ih := Geo.triple h n hw m (by omega)
    have p3 := h.step n hw m 3 (by omega) (by omega)
    show (pref ws (m + 1)).length * (pref ws (m + 2)).length * (pref ws (m + 3)).length ≤ piV (vG R far c0 d0) (m + 2) * vG R far c0 d0 (m + 3)
    calc (pref ws (m + 1)).length * (pref ws (m + 2)).length * (pref ws (m + 3)).length ≤ (pref ws (m + 1)).length * (pref ws (m + 2)).length * ((pref ws m).length * vG R far c0 d0 (m + 3)) := Nat.mul_le_mul_left _ p3
      _ = (pref ws m).length * (pref ws (m + 1)).length * (pref ws (m + 2)).length * vG R far c0 d0 (m + 3) := by ac_rfl
      _ ≤ _ := Nat.mul_le_mul_right _ ih
theorem two_dir {u u' a : W4} {n : Nat} (hu : u.length = n) (hu' : u'.length = n) (k : Nat) (h1 : u.take (n - k) = u'.take (n - k)) (he : ecW c0 u = ecW c0 u') : ecW (0, 0) (u.drop (n - k)) = ecW (0, 0) (u'.drop (n - k)) := by
  rw [← List.take_append_drop (n - k) u, ← List.take_append_drop (n - k) u', ← h1, ec_drop, ec_drop c0 _ (u'.drop (n - k)), Prod.mk.injEq] at he
  exact Prod.ext (by omega) (by omega)
theorem Geo.three (h : Geo fl R far c0 d0) {ws : List W4} (hnd : ws.Nodup) (n : Nat) (e : Cl) (hw : ∀ w ∈ ws, isPath fl far c0 d0 w ∧ w.length = n) (he : ∀ w ∈ ws, ecW c0 w = e) (hn : 2 ≤ n) : ws.length * ws.length * ws.length ≤ 2 * piV (vG R far c0 d0) n := by
  have c1 : ws.length ≤ (pref ws n).length := nodup_le _ _ hnd (fun w hw' => mem_pref.2 ⟨w, hw', by rw [List.take_of_length_le]; rw [(hw w hw').2]; exact Nat.le_refl _⟩)
  have c2 : ws.length ≤ (pref ws (n - 1)).length := by
    rw [← List.length_map (f := fun u : W4 => u.take (n - 1)) (as := ws)]
    refine nodup_le _ _ (nodup_mapB _ _ hnd ?_) (fun x hx => ?_)
    · intro u hu u' hu' e1
      have hd := two_dir (c0 := c0) (a := []) (hw u hu).2 (hw u' hu').2 1 e1 (by rw [he u hu, he u' hu'])
      have l1 : (u.drop (n - 1)).length = 1 := by rw [List.length_drop, (hw u hu).2]; omega
      have l2 : (u'.drop (n - 1)).length = 1 := by rw [List.length_drop, (hw u' hu').2]; omega
      obtain ⟨x, hx⟩ := List.length_eq_one_iff.1 l1
      obtain ⟨x', hx'⟩ := List.length_eq_one_iff.1 l2
      rw [hx, hx'] at hd
      have := uniq1 x x' hd
      rw [← List.take_append_drop (n - 1) u, ← List.take_append_drop (n - 1) u', hx, hx', this]
      exact congrArg (· ++ [x']) e1
    · obtain ⟨u, hu, rfl⟩ := List.mem_map.1 hx
      exact mem_pref.2 ⟨u, hu, rfl⟩
  have c3 : ws.length ≤ 2 * (pref ws (n - 2)).length := by
    have hP : (prodL (pref ws (n - 2)) [true, false]).length = (pref ws (n - 2)).length * 2 := prodL_len _ _
    rw [Nat.mul_comm, ← hP, ← List.length_map (f := fun u : W4 => (u.take (n - 2), horW (u.getD (n - 2) 0))) (as := ws)]
    refine nodup_le _ _ (nodup_mapB _ _ hnd ?_) (fun x hx => ?_)
    · intro u hu u' hu' e1
      have e2 : u.take (n - 2) = u'.take (n - 2) := congrArg (·.1) e1
      have e3 : horW (u.getD (n - 2) 0) = horW (u'.getD (n - 2) 0) := congrArg (·.2) e1
      have hd := two_dir (c0 := c0) (a := []) (hw u hu).2 (hw u' hu').2 2 e2 (by rw [he u hu, he u' hu'])
      have l1 : (u.drop (n - 2)).length = 2 := by rw [List.length_drop, (hw u hu).2]; omega
      have l2 : (u'.drop (n - 2)).length = 2 := by rw [List.length_drop, (hw u' hu').2]; omega
      have nb1 := h.nb (a := u.take (n - 2)) (b := u.drop (n - 2)) (by rw [List.take_append_drop]; exact (hw u hu).1)
      have nb2 := h.nb (a := u'.take (n - 2)) (b := u'.drop (n - 2)) (by rw [List.take_append_drop]; exact (hw u' hu').1)
      have g1 : u.getD (n - 2) 0 = (u.drop (n - 2)).getD 0 0 := by simp [List.getD_eq_getElem?_getD]
      have g2 : u'.getD (n - 2) 0 = (u'.drop (n - 2)).getD 0 0 := by simp [List.getD_eq_getElem?_getD]
      rw [g1, g2] at e3
      rw [← List.take_append_drop (n - 2) u, ← List.take_append_drop (n - 2) u']
      revert hd nb1 nb2 e3 l1 l2
      generalize u.drop (n - 2) = a
      generalize u'.drop (n - 2) = a'
      intro e3 hd l1 l2 nb1 nb2
      match a, a', l1, l2 with
      | [x, y], [x', y'], _, _ => rw [uniqH x y x' y' nb1 nb2 hd e3, e2]
    · obtain ⟨u, hu, rfl⟩ := List.mem_map.1 hx
      refine mem_prodL (mem_pref.2 ⟨u, hu, rfl⟩) ?_
      cases horW (u.getD (n - 2) 0) <;> simp
  have t := h.triple n hw (n - 2) (by omega)
  rw [show n - 2 + 1 = n - 1 by omega, show n - 2 + 2 = n by omega] at t
  calc ws.length * ws.length * ws.length ≤ (2 * (pref ws (n - 2)).length) * (pref ws (n - 1)).length * (pref ws n).length := Nat.mul_le_mul (Nat.mul_le_mul c3 c2) c1
    _ = 2 * ((pref ws (n - 2)).length * (pref ws (n - 1)).length * (pref ws n).length) := by ac_rfl
    _ ≤ _ := Nat.mul_le_mul_left 2 t
end
end Go.Proofs.YthdkhikkdcjifaaDoor
