/- Plain mathematics: signs written into a text of even rows. -/
import Derived.Test.YtbfclnigjijkbaaLabel
namespace Go.Proofs.Ytbfclnigjijkbaa
set_option maxRecDepth 100000
set_option linter.all false
open Go

/-- Rows without '/' are cut again as they were joined. -/
theorem split_join : ∀ (rs : List (List UInt8)), rs ≠ [] → (∀ r ∈ rs, ∀ c ∈ r, c ≠ 47) → splitP (joinP rs) = rs
  | [], h, _ => absurd rfl h
  | [r], _, h => by
    show splitP r = [r]
    exact splitP_miss r (h r (by simp))
  | r :: q :: rs, _, h => by
    rw [joinP_cons r (by simp), splitP_hit r _ (h r (by simp)), split_join (q :: rs) (by simp) (fun x hx => h x (List.mem_cons_of_mem _ hx))]
theorem join_set : ∀ (rs : List (List UInt8)) (W : Nat), (∀ r ∈ rs, r.length = W) → ∀ (y x : Nat) (c : UInt8), y < rs.length → x < W → (joinP rs).set (y * (W + 1) + x) c = joinP (rs.set y ((rs.getD y []).set x c))
  | [], _, _, y, _, _, h, _ => by simp at h
  | [r], W, hr, y, x, c, hy, hx => by
    have : y = 0 := by simpa using hy
    subst this
    simp [joinP]
  | r :: q :: rs, W, hr, y, x, c, hy, hx => by
    have h0 := hr r (by simp)
    cases y with
    | zero =>
      rw [joinP_cons r (by simp), List.set_append_left _ _ (by omega)]
      simp [joinP]
    | succ y =>
      have ih := join_set (q :: rs) W (fun z hz => hr z (List.mem_cons_of_mem _ hz)) y x c (by simpa using hy) hx
      rw [joinP_cons r (by simp), List.set_append_right _ _ (by rw [h0, Nat.add_mul]; omega), h0]
      have e : (y + 1) * (W + 1) + x - W = (y * (W + 1) + x) + 1 := by rw [Nat.add_mul y 1]; omega
      rw [e, List.set_cons_succ, ih]
      rw [List.set_cons_succ, joinP_cons r (by cases y <;> simp)]
      rfl
theorem flat_set : ∀ (rs : List (List UInt8)) (W : Nat), (∀ r ∈ rs, r.length = W) → ∀ (y x : Nat) (c : UInt8), y < rs.length → x < W → rs.flatten.set (y * W + x) c = (rs.set y ((rs.getD y []).set x c)).flatten
  | [], _, _, y, _, _, h, _ => by simp at h
  | r :: rs, W, hr, y, x, c, hy, hx => by
    have h0 := hr r (by simp)
    cases y with
    | zero =>
      rw [List.flatten_cons, List.set_append_left _ _ (by omega)]
      simp
    | succ y =>
      have ih := flat_set rs W (fun z hz => hr z (List.mem_cons_of_mem _ hz)) y x c (by simpa using hy) hx
      rw [List.flatten_cons, List.set_append_right _ _ (by rw [h0, Nat.add_mul]; omega), h0, show (y + 1) * W + x - W = y * W + x from by rw [Nat.add_mul]; omega, ih, List.set_cons_succ, List.flatten_cons]
      rfl
/-- A sign written at a cell. -/
theorem put_even {S : List UInt8} {W : Nat} (h : Even S W) {x y : Nat} (hy : y < (splitP S).length) (hx : x < W) (c : UInt8) (hc : c ≠ 47) :
    Even (S.set (y * (W + 1) + x) c) W ∧ (splitP (S.set (y * (W + 1) + x) c)).length = (splitP S).length ∧ (splitP (S.set (y * (W + 1) + x) c)).flatten = (splitP S).flatten.set (y * W + x) c := by
  have e1 : S.set (y * (W + 1) + x) c = joinP ((splitP S).set y (((splitP S).getD y []).set x c)) := by
    have := join_set (splitP S) W h y x c hy hx
    rwa [join_split] at this
  have hm : ∀ r ∈ (splitP S).set y (((splitP S).getD y []).set x c), r.length = W ∧ ∀ d ∈ r, d ≠ 47 := by
    intro r hr
    rcases List.mem_or_eq_of_mem_set hr with hr | rfl
    · exact ⟨h r hr, fun d hd => (split_mem hr d hd).2⟩
    · obtain ⟨h1, h2⟩ := even_row h hy
      refine ⟨by rw [List.length_set]; exact h1, fun d hd => ?_⟩
      rcases List.mem_or_eq_of_mem_set hd with hd | rfl
      · exact h2 d hd
      · exact hc
  have e2 : splitP (S.set (y * (W + 1) + x) c) = (splitP S).set y (((splitP S).getD y []).set x c) := by
    rw [e1]
    refine split_join _ ?_ (fun r hr => (hm r hr).2)
    intro he
    have := congrArg List.length he
    rw [List.length_set] at this
    simp at this
    exact splitP_ne S this
  refine ⟨?_, by rw [e2, List.length_set], ?_⟩
  · intro r hr
    rw [e2] at hr
    exact (hm r hr).1
  · rw [e2, flat_set (splitP S) W h y x c hy hx]
/-- The label of a face. -/
def lab (n : Int) : UInt8 := UInt8.ofNat (48 + n.toNat)
theorem lab_nat {n : Int} (h0 : 0 ≤ n) (h9 : n ≤ 9) : ((lab n).toNat : Int) = 48 + n := by
  unfold lab
  rw [UInt8.toNat_ofNat']
  omega
theorem lab_dig {n : Int} (h0 : 0 ≤ n) (h9 : n ≤ 9) : isDig (lab n) = true := by
  unfold isDig
  rw [decide_eq_true_eq, lab_nat h0 h9]
  omega
theorem lab_not47 {n : Int} (h0 : 0 ≤ n) (h9 : n ≤ 9) : lab n ≠ 47 := by
  intro h
  have := lab_nat h0 h9
  rw [h] at this
  have e : ((47 : UInt8).toNat : Int) = 47 := rfl
  omega
theorem bd_unlab {l : List UInt8} (h : isBd l = true) : unlab l = l := by
  have hk : ∀ c ∈ l, unl c = c := by
    intro c hc
    by_cases h47 : c = 47
    · subst h47; rfl
    · have hm : c ∈ (splitP l).flatten := by
        rw [flat_filter]
        exact List.mem_filter.2 ⟨hc, by simp [h47]⟩
      obtain ⟨r, hr, hcr⟩ := List.mem_flatten.1 hm
      unfold isBd at h
      simp only [Bool.and_eq_true] at h
      have := List.all_eq_true.1 h.2 r hr
      simp only [rowOk, Bool.and_eq_true] at this
      have h2 := List.all_eq_true.1 this.2 c hcr
      unfold okC at h2
      apply unl_no
      unfold isDig
      rw [decide_eq_false_iff_not]
      rw [Bool.or_eq_true, beq_iff_eq, beq_iff_eq] at h2
      rcases h2 with rfl | rfl <;> decide
  unfold unlab
  conv => rhs; rw [← List.map_id l]
  exact List.map_congr_left (fun c hc => hk c hc)
/-- A label written where there is floor leaves the floor as it is. -/
theorem unlab_put {S : List UInt8} {p : Nat} {c d : UInt8} (h : S[p]? = some d) (hd : unl d = 46) (hc : isDig c = true) : unlab (S.set p c) = unlab S := by
  unfold unlab
  rw [List.map_set, unl_yes hc]
  obtain ⟨hp, he⟩ := List.getElem?_eq_some_iff.1 h
  have e : (S.map unl)[p]'(by simpa using hp) = 46 := by rw [List.getElem_map, he, hd]
  rw [← e]
  exact List.set_getElem_self _
end Go.Proofs.Ytbfclnigjijkbaa
