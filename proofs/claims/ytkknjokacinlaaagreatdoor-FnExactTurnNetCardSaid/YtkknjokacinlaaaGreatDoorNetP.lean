/- Plain mathematics of sixes: the text whose met digits are taken away. Plain mathematics of sixes: the landings, row by row. -/
import Derived.Test.YtkknjokacinlaaaGreatDoorNetC
import Derived.Test.YtkknjokacinlaaaGreatDoorSortL
import Derived.Test.YtkknjokacinlaaaGreatDoorNetB
import Derived.Test.YtkknjokacinlaaaGreatDoorNet
namespace Go.Proofs.YtkknjokacinlaaaGreatDoor
set_option maxRecDepth 100000
set_option linter.all false
open Go

/-- The text as it is when the digits of Q are taken away. -/
structure Wiped (l : List UInt8) (W H : Nat) (Q : List Lg) (L : List UInt8) : Prop where
  even : Even L W
  hh : (splitP L).length = H
  cel : ∀ x y : Nat, x < W → y < H → cellI (splitP L) (x : Int) (y : Int) = if seenL Q (x : Int) (y : Int) = true then 46 else cellI (splitP l) (x : Int) (y : Int)
theorem Wiped.start {l : List UInt8} {W H : Nat} (h : Filled l W H) : Wiped l W H [] l := ⟨h.even, h.hh, fun x y _ _ => by simp [seenL]⟩
/-- A cell of a text of even rows, by its place. -/
theorem even_flat {S : List UInt8} {W H : Nat} (h : Even S W) (hH : (splitP S).length = H) {x y : Nat} (hx : x < W) (hy : y < H) : (splitP S).flatten[y * W + x]? = some (cellI (splitP S) (x : Int) (y : Int)) := cellI_flat h (by rw [hH]; exact hy) hx
theorem cell_ix {W x y x' y' : Nat} (hx : x < W) (hx' : x' < W) (e : y * W + x = y' * W + x') : x = x' ∧ y = y' := by
  have m1 : (y * W + x) % W = x := by rw [Nat.mul_comm, Nat.mul_add_mod, Nat.mod_eq_of_lt hx]
  have m2 : (y' * W + x') % W = x' := by rw [Nat.mul_comm, Nat.mul_add_mod, Nat.mod_eq_of_lt hx']
  rw [e, m2] at m1
  have hm : y * W = y' * W := by omega
  exact ⟨m1.symm, Nat.eq_of_mul_eq_mul_right (by omega) hm⟩
theorem seen_snoc (Q : List Lg) (q : Lg) (x y : Int) : seenL (Q ++ [q]) x y = (seenL Q x y || decide (q.1.x = x ∧ q.1.y = y)) := by
  simp [seenL]
theorem Wiped.put {l : List UInt8} {W H : Nat} {Q : List Lg} {L : List UInt8} (h : Wiped l W H Q L) {s : St} {x y : Nat} (ex : s.x = (x : Int)) (ey : s.y = (y : Int)) (hx : x < W) (hy : y < H) (r : Nat) : Wiped l W H (Q ++ [(s, r)]) (putN W L s) := by
  obtain ⟨p1, p2, p3⟩ := put_even h.even (x := x) (y := y) (by rw [h.hh]; exact hy) hx 46 (by decide)
  have e : putN W L s = L.set (y * (W + 1) + x) 46 := by unfold putN; rw [ex, ey, Int.toNat_natCast, Int.toNat_natCast]
  rw [e]
  refine ⟨p1, by rw [p2, h.hh], fun x' y' hx' hy' => ?_⟩
  have h1 := even_flat p1 (by rw [p2, h.hh]) hx' hy'
  have h2 := even_flat h.even h.hh hx' hy'
  rw [p3] at h1
  rw [seen_snoc]
  show _ = if (seenL Q (x' : Int) (y' : Int) || decide (s.x = (x' : Int) ∧ s.y = (y' : Int))) = true then 46 else _
  rw [ex, ey]
  by_cases he : x = x' ∧ y = y'
  · obtain ⟨rfl, rfl⟩ := he
    have hl : y * W + x < (splitP L).flatten.length := (List.getElem?_eq_some_iff.1 h2).1
    rw [List.getElem?_set_self hl] at h1
    rw [← Option.some.inj h1]
    simp
  · have hne : ¬ y * W + x = y' * W + x' := fun e => he (cell_ix hx hx' e)
    rw [List.getElem?_set_ne hne, h2] at h1
    rw [← Option.some.inj h1, h.cel x' y' hx' hy']
    have : decide ((x : Int) = (x' : Int) ∧ (y : Int) = (y' : Int)) = false := decide_eq_false (fun e => he (by omega))
    rw [this, Bool.or_false]
/-- What a cell of it says. -/
theorem Wiped.dig {l : List UInt8} {W H : Nat} {Q : List Lg} {L : List UInt8} (h : Wiped l W H Q L) (hf : Filled l W H) (x y : Int) : isDig (cellI (splitP L) x y) = (digL l x y && !seenL Q x y) := by
  unfold digL
  cases hi : inC W H x y
  · rw [cellI_outC h.even h.hh hi, cellI_outC hf.even hf.hh hi, dig_wall]
    rfl
  · unfold inC at hi
    have hi' := of_decide_eq_true hi
    obtain ⟨k, rfl⟩ : ∃ k : Nat, y = (k : Int) := ⟨y.toNat, by omega⟩
    obtain ⟨j, rfl⟩ : ∃ j : Nat, x = (j : Int) := ⟨x.toNat, by omega⟩
    rw [h.cel j k (by omega) (by omega)]
    cases seenL Q (j : Int) (k : Int)
    · simp
    · simp only [if_true, Bool.not_true, Bool.and_false]
      decide
/-- Its value where it was not met. -/
theorem Wiped.old {l : List UInt8} {W H : Nat} {Q : List Lg} {L : List UInt8} (h : Wiped l W H Q L) {x y : Nat} (hx : x < W) (hy : y < H) (hs : seenL Q (x : Int) (y : Int) = false) : cellI (splitP L) (x : Int) (y : Int) = cellI (splitP l) (x : Int) (y : Int) := by
  rw [h.cel x y hx hy, hs]
  rfl
/-- The landing as the program keeps it. -/
def ldOf (l : List UInt8) (q : Lg) : Ld := ⟨((cellI (splitP l) q.1.x q.1.y).toNat : Int) - 48, q.1, (q.2 : Int)⟩
/-- The rows of a filled text. -/
theorem offG_even : ∀ (rs : List (List UInt8)) (W k : Nat), (∀ r ∈ rs, r.length = W) → k ≤ rs.length → offG rs k = k * (W + 1)
  | [], W, k, _, h => by
    have : k = 0 := by simpa using h
    subst this
    simp [offG]
  | r :: rs, W, 0, _, _ => by simp [offG]
  | r :: rs, W, k + 1, hr, h => by
    show r.length + 1 + offG rs k = _
    rw [hr r (by simp), offG_even rs W k (fun x hx => hr x (List.mem_cons_of_mem _ hx)) (by simpa using h), Nat.add_mul]
    omega
theorem labAt_rows {w : World} {h g : Nat} {l : List UInt8} {W H : Nat} (hr : RowsIn w h g l) (hf : Filled l W H) : LabAt w h g l W H := by
  obtain ⟨h1, h2, h3⟩ := hr
  refine ⟨h1, h2, fun k hk => ?_⟩
  have hk' : k < (splitP l).length := by rw [hf.hh]; exact hk
  rw [h3 k hk', offG_even _ W k hf.even (by omega)]
  have hl : (rowG (splitP l) k).length = W := by
    have := rowG_get (splitP l) k hk'
    exact hf.even _ (List.mem_of_getElem? this)
  rw [hl]
  unfold rowV
  rw [if_neg (by have := hf.w1; omega)]
theorem goL_hit {l : List UInt8} {f n : Nat} {Q : List Lg} {q : Lg} (h : Q[n]? = some q) : goL l (f + 1) n Q = goL l f (n + 1) (stepsL l q 4 Q) := by
  show (match Q[n]? with | none => Q | some q => goL l f (n + 1) (stepsL l q 4 Q)) = _
  rw [h]
theorem goL_end {l : List UInt8} {f n : Nat} {Q : List Lg} (h : Q.length ≤ n) : goL l f n Q = Q := by
  cases f with
  | zero => rfl
  | succ f =>
    unfold goL
    rw [List.getElem?_eq_none h]
end Go.Proofs.YtkknjokacinlaaaGreatDoor
namespace Go.Proofs.YtkknjokacinlaaaGreatDoor
set_option maxRecDepth 100000
set_option linter.all false
open Go

/-- The landing on a cell. -/
def landI (l : List UInt8) (i : Nat) : Ld := match (lgs l).find? (fun q => ixL (width l) q.1 == i) with
  | none => ldOf l (startL l)
  | some q => ldOf l q
def lands (l : List UInt8) : List Ld := (digs l).map (landI l)
theorem landI_ix {l : List UInt8} {W H : Nat} (h : Filled l W H) {q : Lg} (hq : q ∈ lgs l) : landI l (ixL W q.1) = ldOf l q := by
  unfold landI
  rw [h.ww, find_ix ((lgs_good h).ix h.toGrid6).1 hq]
theorem perm_of_nodup {A B : List Nat} (h : A.Nodup) (hb : B.Nodup) (hs : ∀ i, i ∈ A ↔ i ∈ B) : A.Perm B := by
  rw [List.perm_iff_count]
  intro i
  rw [h.count, hb.count]
  simp only [hs]
theorem digs_perm {l : List UInt8} {W H : Nat} (h : Filled l W H) (h6 : (lgs l).length = 6) : (digs l).Perm ((lgs l).map fun q => ixL W q.1) := by
  obtain ⟨h1, h2⟩ := (lgs_good h).ix h.toGrid6
  refine perm_of_nodup (digs_nodup l) h1 (fun i => ⟨fun hi => ?_, fun hi => h2 i hi⟩)
  exact nodup_len h1 h2 (by rw [digs_len, h.cnt, List.length_map]; omega) i hi
theorem lands_perm {l : List UInt8} {W H : Nat} (h : Filled l W H) (h6 : (lgs l).length = 6) : (lands l).Perm ((lgs l).map (ldOf l)) := by
  have h1 := (digs_perm h h6).map (landI l)
  rw [List.map_map] at h1
  have e : (lgs l).map ((landI l) ∘ fun q => ixL W q.1) = (lgs l).map (ldOf l) := List.map_congr_left (fun q hq => landI_ix h hq)
  rw [e] at h1
  exact h1
/-- A digit's landing, when all are met. -/
theorem land_of {l : List UInt8} {W H : Nat} (h : Filled l W H) (h6 : (lgs l).length = 6) {i : Nat} (hi : i ∈ digs l) : ∃ q ∈ lgs l, ixL W q.1 = i ∧ landI l i = ldOf l q := by
  obtain ⟨q, hq, e⟩ := List.mem_map.1 ((digs_perm h h6).mem_iff.1 hi)
  exact ⟨q, hq, e, by rw [← e]; exact landI_ix h hq⟩
theorem cmp_keys {s t : St} (h : s.y < t.y ∨ (s.y = t.y ∧ s.x < t.x)) : ¬ cmpL (keyS t) (keyS s) < 0 := by
  show ¬ (if cmpI t.y s.y = 0 then (if cmpI t.x s.x = 0 then cmpL (keyD t.d) (keyD s.d) else cmpI t.x s.x) else cmpI t.y s.y) < 0
  rcases h with h | ⟨h1, h2⟩
  · have : cmpI t.y s.y = 1 := by unfold cmpI; rw [if_neg (by omega), if_pos h]
    rw [this]
    simp
  · have e1 : cmpI t.y s.y = 0 := cmpI_zero.2 h1.symm
    have e2 : cmpI t.x s.x = 1 := by unfold cmpI; rw [if_neg (by omega), if_pos h2]
    rw [e1, e2]
    simp
theorem lands_sorted {l : List UInt8} {W H : Nat} (h : Filled l W H) (h6 : (lgs l).length = 6) : SortedL (lands l) := by
  unfold SortedL lands
  rw [List.pairwise_map]
  refine (digs_sorted l).imp_of_mem (fun {i j} hi hj hij => ?_)
  obtain ⟨p, hp, ep, e1⟩ := land_of h h6 hi
  obtain ⟨q, hq, eq, e2⟩ := land_of h h6 hj
  rw [e1, e2]
  obtain ⟨a1, a2, a3, a4⟩ := h.toGrid6.in ((lgs_good h).dig p hp)
  obtain ⟨b1, b2, b3, b4⟩ := h.toGrid6.in ((lgs_good h).dig q hq)
  refine cmp_keys ?_
  show p.1.y < q.1.y ∨ (p.1.y = q.1.y ∧ p.1.x < q.1.x)
  unfold ixL at ep eq
  rcases Int.lt_trichotomy p.1.y q.1.y with hy | hy | hy
  · exact .inl hy
  · refine .inr ⟨hy, ?_⟩
    rw [hy] at ep
    omega
  · exfalso
    have : (q.1.y.toNat + 1) * W ≤ p.1.y.toNat * W := Nat.mul_le_mul_right _ (by omega)
    rw [Nat.add_mul] at this
    omega
/-- Sorted landings are those row by row. -/
theorem sorted_lands {l : List UInt8} {W H : Nat} (h : Filled l W H) (h6 : (lgs l).length = 6) {Q : List Ld} (hp : Q.Perm ((lgs l).map (ldOf l))) (hs : SortedL Q) : Q = lands l := by
  have hpp : Q.Perm (lands l) := hp.trans (lands_perm h h6).symm
  refine hpp.eq_of_pairwise (le := fun (a b : Ld) => ¬ cmpL (keyS b.s) (keyS a.s) < 0) (fun a b ha hb h1 h2 => ?_) hs (lands_sorted h h6)
  have hk : keyS a.s = keyS b.s := by
    rcases cmpL_total (l := keyS a.s) (m := keyS b.s) rfl with k | k | k
    · exact absurd k h2
    · exact k
    · exact absurd k h1
  obtain ⟨p, hp', rfl⟩ := List.mem_map.1 (hp.mem_iff.1 ha)
  obtain ⟨q, hq', rfl⟩ := List.mem_map.1 ((lands_perm h h6).mem_iff.1 hb)
  have hk' : p.1.y :: p.1.x :: keyD p.1.d = q.1.y :: q.1.x :: keyD q.1.d := hk
  injection hk' with k1 k2
  injection k2 with k2 k3
  rw [← landI_ix h hp', ← landI_ix h hq']
  unfold ixL
  rw [k1, k2]
/-- What a digit's landing says. -/
theorem land_says {l : List UInt8} {W H : Nat} (h : Filled l W H) (h6 : (lgs l).length = 6) {i : Nat} (hi : i ∈ digs l) : (landI l i).n = (((flatL l).getD i 0).toNat : Int) - 48 ∧ (landI l i).s.d.b = botI W (lgs l) i ∧ (landI l i).r = farI W (lgs l) i := by
  obtain ⟨q, hq, e1, e2⟩ := land_of h h6 hi
  have hf := find_ix ((lgs_good h).ix h.toGrid6).1 hq
  rw [e1] at hf
  rw [e2]
  refine ⟨?_, ?_, ?_⟩
  · obtain ⟨a1, a2, a3, a4⟩ := h.toGrid6.in ((lgs_good h).dig q hq)
    obtain ⟨x, hx⟩ := Int.eq_ofNat_of_zero_le a1
    obtain ⟨y, hy⟩ := Int.eq_ofNat_of_zero_le a3
    show ((cellI (splitP l) q.1.x q.1.y).toNat : Int) - 48 = _
    have hat := h.toGrid6.at (x := x) (y := y) (by omega) (by omega)
    unfold ixL at e1
    rw [hx, hy, Int.toNat_natCast, Int.toNat_natCast] at e1
    rw [e1] at hat
    rw [hx, hy, List.getD_eq_getElem?_getD, hat]
    rfl
  · unfold botI; rw [hf]; rfl
  · unfold farI; rw [hf]; rfl
/-- The faces that lie on the digits, row by row. -/
def bots (l : List UInt8) : List Int := (digs l).map (botI (width l) (lgs l))
/-- Is a text a net? -/
def netB (l : List UInt8) : Bool := sixB l && decide (bots l).Nodup
theorem nodup_big : ∀ (A B : List Nat), A.Nodup → (∀ i ∈ A, i ∈ B) → B.length ≤ A.length → B.Nodup
  | [], B, _, _, h => by
    have : B = [] := List.eq_nil_of_length_eq_zero (by simpa using h)
    subst this
    exact List.nodup_nil
  | a :: A, B, hn, hs, hl => by
    have ha := hs a (by simp)
    obtain ⟨h1, h2⟩ := List.nodup_cons.1 hn
    have hp := List.perm_cons_erase ha
    have hel := List.length_erase_of_mem ha
    have hBl : 0 < B.length := List.length_pos_of_mem ha
    rw [List.length_cons] at hl
    have hs' : ∀ i ∈ A, i ∈ B.erase a := fun i hi => (List.mem_erase_of_ne (fun e => h1 (by rw [← e]; exact hi))).2 (hs i (by simp [hi]))
    have ih := nodup_big A (B.erase a) h2 hs' (by omega)
    rw [hp.nodup_iff, List.nodup_cons]
    refine ⟨fun hm => ?_, ih⟩
    have h3 := nodup_le (a :: A) (B.erase a) hn (fun i hi => by
      rcases List.mem_cons.1 hi with rfl | hi
      · exact hm
      · exact hs' i hi)
    rw [List.length_cons] at h3
    omega
theorem six_parts {l : List UInt8} (h : sixB l = true) : Filled l (width l) (splitP l).length ∧ (lgs l).length = 6 := by
  unfold sixB at h
  rw [Bool.and_eq_true, Bool.and_eq_true, decide_eq_true_eq, decide_eq_true_eq] at h
  exact ⟨filled_of h.1.2 h.1.1, h.2⟩
theorem way_bot {d : D} (h : d ∈ ways) : 0 ≤ d.b ∧ d.b < 6 := by
  have : ∀ e ∈ ways, 0 ≤ e.b ∧ e.b < 6 := by decide +kernel
  exact this d h
theorem bot_bd {l : List UInt8} (h : sixB l = true) {i : Nat} (hi : i ∈ digs l) : 0 ≤ botI (width l) (lgs l) i ∧ botI (width l) (lgs l) i < 6 := by
  obtain ⟨hF, h6⟩ := six_parts h
  obtain ⟨q, hq, e1, e2⟩ := land_of hF h6 hi
  have hf := find_ix ((lgs_good hF).ix hF.toGrid6).1 hq
  rw [e1] at hf
  unfold botI
  rw [hf]
  exact way_bot ((lgs_good hF).way q hq)
/-- All faces lie on the net: each one once. -/
theorem net_cover {l : List UInt8} (h : sixB l = true) : netB l = decide (∀ k : Nat, k < 6 → (k : Int) ∈ bots l) := by
  obtain ⟨hF, h6⟩ := six_parts h
  unfold netB
  rw [h, Bool.true_and, decide_eq_decide]
  have hl : (bots l).length = 6 := by unfold bots; rw [List.length_map, digs_len, hF.cnt]
  have hbd : ∀ b ∈ bots l, 0 ≤ b ∧ b < 6 := by
    intro b hb
    obtain ⟨i, hi, rfl⟩ := List.mem_map.1 hb
    exact bot_bd h hi
  generalize bots l = B at hl hbd
  have e : B = (B.map Int.toNat).map (fun n : Nat => (n : Int)) := by
    rw [List.map_map]
    conv => lhs; rw [← List.map_id B]
    exact List.map_congr_left (fun b hb => by have := hbd b hb; show b = ((b.toNat : Nat) : Int); omega)
  constructor
  · intro hn k hk
    have hnt : (B.map Int.toNat).Nodup := nodup_map_on _ _ hn (fun a ha b hb he => by
      have := hbd a ha
      have := hbd b hb
      omega)
    have := nodup_len (A := B.map Int.toNat) (B := List.range 6) hnt (fun i hi => by
      obtain ⟨b, hb, rfl⟩ := List.mem_map.1 hi
      have := hbd b hb
      rw [List.mem_range]; omega) (by rw [List.length_range, List.length_map]; omega) k (List.mem_range.2 hk)
    rw [e]
    exact List.mem_map.2 ⟨k, this, rfl⟩
  · intro hc
    have h1 : (B.map Int.toNat).Nodup := nodup_big (List.range 6) (B.map Int.toNat) List.nodup_range (fun i hi => by
      have := hc i (List.mem_range.1 hi)
      exact List.mem_map.2 ⟨_, this, by simp⟩) (by rw [List.length_map, List.length_range]; omega)
    rw [e]
    exact nodup_map_on _ _ h1 (fun a _ b _ he => by omega)
end Go.Proofs.YtkknjokacinlaaaGreatDoor
