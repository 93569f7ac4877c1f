/- Plain mathematics of sixes: the text whose met digits are taken away. -/
import Derived.Test.YtbfclnigjijkbaaNetC
import Derived.Test.YtbfclnigjijkbaaSortL
import Derived.Test.YtbfclnigjijkbaaNetB
namespace Go.Proofs.Ytbfclnigjijkbaa
set_option maxRecDepth 100000
set_option linter.all false
open Go

/-- The text as it is when the digits of Q are taken away. -/
structure Wiped (l : List UInt8) (W H : Nat) (Q : List Lg) (L : List UInt8) : Prop where
  even : Even L W
  hh : (splitP L).length = H
  cel : ∀ x y : Nat, x < W → y < H → cellI (splitP L) (x : Int) (y : Int) = if seenL Q (x : Int) (y : Int) = true then 46 else cellI (splitP l) (x : Int) (y : Int)
theorem Wiped.start {l : List UInt8} {W H : Nat} (h : Filled l W H) : Wiped l W H [] l := ⟨h.even, h.hh, fun x y _ _ => by simp [seenL]⟩
/-- A cell of a text of even rows, by its place. -/
theorem even_flat {S : List UInt8} {W H : Nat} (h : Even S W) (hH : (splitP S).length = H) {x y : Nat} (hx : x < W) (hy : y < H) : (splitP S).flatten[y * W + x]? = some (cellI (splitP S) (x : Int) (y : Int)) := cellI_flat h (by rw [hH]; exact hy) hx
theorem cell_ix {W x y x' y' : Nat} (hx : x < W) (hx' : x' < W) (e : y * W + x = y' * W + x') : x = x' ∧ y = y' := by
  have m1 : (y * W + x) % W = x := by rw [Nat.mul_comm, Nat.mul_add_mod, Nat.mod_eq_of_lt hx]
  have m2 : (y' * W + x') % W = x' := by rw [Nat.mul_comm, Nat.mul_add_mod, Nat.mod_eq_of_lt hx']
  rw [e, m2] at m1
  have hm : y * W = y' * W := by omega
  exact ⟨m1.symm, Nat.eq_of_mul_eq_mul_right (by omega) hm⟩
theorem seen_snoc (Q : List Lg) (q : Lg) (x y : Int) : seenL (Q ++ [q]) x y = (seenL Q x y || decide (q.1.x = x ∧ q.1.y = y)) := by
  simp [seenL]
theorem Wiped.put {l : List UInt8} {W H : Nat} {Q : List Lg} {L : List UInt8} (h : Wiped l W H Q L) {s : St} {x y : Nat} (ex : s.x = (x : Int)) (ey : s.y = (y : Int)) (hx : x < W) (hy : y < H) (r : Nat) : Wiped l W H (Q ++ [(s, r)]) (putN W L s) := by
  obtain ⟨p1, p2, p3⟩ := put_even h.even (x := x) (y := y) (by rw [h.hh]; exact hy) hx 46 (by decide)
  have e : putN W L s = L.set (y * (W + 1) + x) 46 := by unfold putN; rw [ex, ey, Int.toNat_natCast, Int.toNat_natCast]
  rw [e]
  refine ⟨p1, by rw [p2, h.hh], fun x' y' hx' hy' => ?_⟩
  have h1 := even_flat p1 (by rw [p2, h.hh]) hx' hy'
  have h2 := even_flat h.even h.hh hx' hy'
  rw [p3] at h1
  rw [seen_snoc]
  show _ = if (seenL Q (x' : Int) (y' : Int) || decide (s.x = (x' : Int) ∧ s.y = (y' : Int))) = true then 46 else _
  rw [ex, ey]
  by_cases he : x = x' ∧ y = y'
  · obtain ⟨rfl, rfl⟩ := he
    have hl : y * W + x < (splitP L).flatten.length := (List.getElem?_eq_some_iff.1 h2).1
    rw [List.getElem?_set_self hl] at h1
    rw [← Option.some.inj h1]
    simp
  · have hne : ¬ y * W + x = y' * W + x' := fun e => he (cell_ix hx hx' e)
    rw [List.getElem?_set_ne hne, h2] at h1
    rw [← Option.some.inj h1, h.cel x' y' hx' hy']
    have : decide ((x : Int) = (x' : Int) ∧ (y : Int) = (y' : Int)) = false := decide_eq_false (fun e => he (by omega))
    rw [this, Bool.or_false]
/-- What a cell of it says. -/
theorem Wiped.dig {l : List UInt8} {W H : Nat} {Q : List Lg} {L : List UInt8} (h : Wiped l W H Q L) (hf : Filled l W H) (x y : Int) : isDig (cellI (splitP L) x y) = (digL l x y && !seenL Q x y) := by
  unfold digL
  cases hi : inC W H x y
  · rw [cellI_outC h.even h.hh hi, cellI_outC hf.even hf.hh hi, dig_wall]
    rfl
  · unfold inC at hi
    have hi' := of_decide_eq_true hi
    obtain ⟨k, rfl⟩ : ∃ k : Nat, y = (k : Int) := ⟨y.toNat, by omega⟩
    obtain ⟨j, rfl⟩ : ∃ j : Nat, x = (j : Int) := ⟨x.toNat, by omega⟩
    rw [h.cel j k (by omega) (by omega)]
    cases seenL Q (j : Int) (k : Int)
    · simp
    · simp only [if_true, Bool.not_true, Bool.and_false]
      decide
/-- Its value where it was not met. -/
theorem Wiped.old {l : List UInt8} {W H : Nat} {Q : List Lg} {L : List UInt8} (h : Wiped l W H Q L) {x y : Nat} (hx : x < W) (hy : y < H) (hs : seenL Q (x : Int) (y : Int) = false) : cellI (splitP L) (x : Int) (y : Int) = cellI (splitP l) (x : Int) (y : Int) := by
  rw [h.cel x y hx hy, hs]
  rfl
/-- The landing as the program keeps it. -/
def ldOf (l : List UInt8) (q : Lg) : Ld := ⟨((cellI (splitP l) q.1.x q.1.y).toNat : Int) - 48, q.1, (q.2 : Int)⟩
/-- The rows of a filled text. -/
theorem offG_even : ∀ (rs : List (List UInt8)) (W k : Nat), (∀ r ∈ rs, r.length = W) → k ≤ rs.length → offG rs k = k * (W + 1)
  | [], W, k, _, h => by
    have : k = 0 := by simpa using h
    subst this
    simp [offG]
  | r :: rs, W, 0, _, _ => by simp [offG]
  | r :: rs, W, k + 1, hr, h => by
    show r.length + 1 + offG rs k = _
    rw [hr r (by simp), offG_even rs W k (fun x hx => hr x (List.mem_cons_of_mem _ hx)) (by simpa using h), Nat.add_mul]
    omega
theorem labAt_rows {w : World} {h g : Nat} {l : List UInt8} {W H : Nat} (hr : RowsIn w h g l) (hf : Filled l W H) : LabAt w h g l W H := by
  obtain ⟨h1, h2, h3⟩ := hr
  refine ⟨h1, h2, fun k hk => ?_⟩
  have hk' : k < (splitP l).length := by rw [hf.hh]; exact hk
  rw [h3 k hk', offG_even _ W k hf.even (by omega)]
  have hl : (rowG (splitP l) k).length = W := by
    have := rowG_get (splitP l) k hk'
    exact hf.even _ (List.mem_of_getElem? this)
  rw [hl]
  unfold rowV
  rw [if_neg (by have := hf.w1; omega)]
theorem goL_hit {l : List UInt8} {f n : Nat} {Q : List Lg} {q : Lg} (h : Q[n]? = some q) : goL l (f + 1) n Q = goL l f (n + 1) (stepsL l q 4 Q) := by
  show (match Q[n]? with | none => Q | some q => goL l f (n + 1) (stepsL l q 4 Q)) = _
  rw [h]
theorem goL_end {l : List UInt8} {f n : Nat} {Q : List Lg} (h : Q.length ≤ n) : goL l f n Q = Q := by
  cases f with
  | zero => rfl
  | succ f =>
    unfold goL
    rw [List.getElem?_eq_none h]
end Go.Proofs.Ytbfclnigjijkbaa
