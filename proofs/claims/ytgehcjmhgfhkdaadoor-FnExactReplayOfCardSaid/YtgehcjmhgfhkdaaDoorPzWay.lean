/- The way of a word from a puzzle's start; the first beginning that solves it: FirstSolved of the program. -/
import Derived.Test.YtgehcjmhgfhkdaaDoorPzSolS
namespace Go.Proofs.YtgehcjmhgfhkdaaDoor
set_option maxRecDepth 100000
set_option linter.all false
open Go.RowKit

/-- The states along the word, if there is a puzzle. -/
def WL (p : Pz) (L : List UInt8) : List St := if pzB p = true then saV p.b.data.toList p.s L else []
def wb (p : Pz) (L : List UInt8) : Bool := pzB p && raB p.b.data.toList p.s L
theorem WL_len (p : Pz) (L : List UInt8) : (WL p L).length ≤ L.length + 1 ∧ (WL p L).length ≤ 61 := by
  unfold WL saV
  split
  · split
    · rename_i h
      have hw : isWord L = true := by
        unfold raB at h
        simp only [Bool.and_eq_true] at h
        exact h.2.2.1
      have := isWord_len hw
      rw [waysT_len]
      omega
    · simp
  · simp
/-- What FirstSolved answers. -/
def zsN (p : Pz) (L : List UInt8) : Option Nat := (WL p L).findIdx? (metP p.x p.y p.t)
def zsS (p : Pz) (v : ByteArray) : ByteArray := match zsN p v.data.toList with
  | some i => v.extract 0 i
  | none => ⟨#[]⟩
def zsB (p : Pz) (v : ByteArray) : Bool := (zsN p v.data.toList).isSome
theorem zs_hit {p : Pz} {v : ByteArray} {k : Nat} {u : St} (h : ∀ j s, j < k → (WL p v.data.toList)[j]? = some s → metP p.x p.y p.t s = false) (hu : (WL p v.data.toList)[k]? = some u) (hm : metP p.x p.y p.t u = true) : zsS p v = v.extract 0 k ∧ zsB p v = true := by
  have e : zsN p v.data.toList = some k := by
    unfold zsN
    rw [List.findIdx?_eq_some_iff_getElem]
    obtain ⟨hk, hk2⟩ := List.getElem?_eq_some_iff.1 hu
    refine ⟨hk, by rw [hk2]; exact hm, fun j hj => ?_⟩
    have := h j _ hj (List.getElem?_eq_getElem (by omega))
    simp [this]
  unfold zsS zsB
  rw [e]
  exact ⟨rfl, rfl⟩
theorem zs_none {p : Pz} {v : ByteArray} (h : ∀ j s, j < (WL p v.data.toList).length → (WL p v.data.toList)[j]? = some s → metP p.x p.y p.t s = false) : zsS p v = ⟨#[]⟩ ∧ zsB p v = false := by
  have e : zsN p v.data.toList = none := by
    unfold zsN
    rw [List.findIdx?_eq_none_iff]
    intro x hx
    obtain ⟨j, hj⟩ := List.mem_iff_getElem?.1 hx
    have := h j x (List.getElem?_eq_some_iff.1 hj).1 hj
    simp [this]
  unfold zsS zsB
  rw [e]
  exact ⟨rfl, rfl⟩
theorem ret_sb2 {a c : ByteArray} {b d : Bool} (h : a = c ∧ b = d) : Ending.returned (.tuple #[.string c, .bool d]) = .returned (.tuple #[.string a, .bool b]) := by rw [h.1, h.2]

set_option maxHeartbeats 800000 in
theorem wayFrom_any (p : Pz) (v : ByteArray) (w : World) (hs : p.b.size ≤ 1048576) (hv : v.size ≤ 1048576) (hg : Glob w) : Calls Tryd.prog 42 #[Pz.v p, .string v] w fun e w' => ∃ vv, e = .returned (.tuple #[vv, .bool (wb p v.data.toList)]) ∧ w'.ownsRow w.heap.size 32 8 vv (WL p v.data.toList).length (cellsS (WL p v.data.toList)) ∧ Below w.heap.size w w' := by
  obtain ⟨W0, hW, P0, q0⟩ := pz_start p w
  have HW := hide hW
  have HG := hide (glob_to q0 hg rfl)
  have HIP := hide (fun wx hx => implIP_any p wx hs hx)
  have HSA := hide (fun wx hx => implSA_any p.b p.s v wx hs hv hx)
  obtain ⟨l0, ⟨a0, a1, a2, a3, a4, a5, a6, a7, a8, a9, a10, a11⟩, -⟩ := P0.all
  clear hW hg hs hv
  cases h : pzB p with
  | false =>
    rw [h] at HIP
    have HE := hide (show wb p v.data.toList = false ∧ WL p v.data.toList = [] from ⟨by unfold wb; rw [h]; rfl, by unfold WL; rw [h]; rfl⟩)
    rw [HE.out.1, HE.out.2]
    clear h
    go_enter Tryd.func42, Tryd.ntmps42
    go_upto_region 1 with (fail)
    rw [HW.out]
    go_wp2_with fail
    refine (HIP.out _ HG.out).mono ?_
    rintro e w1 ⟨rfl, hb1⟩
    have q1 := below_to hb1 q0 q0.size rfl rfl rfl rfl
    clear hb1
    go_wp2
    go_returns
    exact ⟨_, rfl, ⟨rfl, .inl ⟨rfl, rfl⟩⟩, q1⟩
  | true =>
    rw [h] at HIP
    have HE := hide (show wb p v.data.toList = raB p.b.data.toList p.s v.data.toList ∧ WL p v.data.toList = saV p.b.data.toList p.s v.data.toList from ⟨by unfold wb; rw [h]; rfl, by unfold WL; rw [h]; rfl⟩)
    rw [HE.out.1, HE.out.2]
    clear h
    generalize saV p.b.data.toList p.s v.data.toList = M at HSA ⊢
    generalize raB p.b.data.toList p.s v.data.toList = ok at HSA ⊢
    generalize M.length = n at HSA ⊢
    go_enter Tryd.func42, Tryd.ntmps42
    go_upto_region 1 with (fail)
    rw [HW.out]
    go_wp2_with fail
    refine (HIP.out _ HG.out).mono ?_
    rintro e w1 ⟨rfl, hb1⟩
    have q1 := below_to hb1 q0 q0.size rfl rfl rfl rfl
    have P1 := isPz_to hb1 P0 rfl
    have HG1 := hide (glob_to hb1 HG.out rfl)
    clear hb1 a0 a1 a2 a3 a4 a5 a6 a7 a8 a9 a10 a11 l0 P0 q0
    obtain ⟨l0, ⟨a0, a1, a2, a3, a4, a5, a6, a7, a8, a9, a10, a11⟩, -⟩ := P1.all
    go_wp2_with fail
    refine (HSA.out _ HG1.out).mono ?_
    rintro e w2 ⟨vv, rfl, hO, hb2⟩
    have q2 := below_to hb2 q1 q1.size rfl rfl rfl rfl
    have HO := hide (own_mono hO q1.size)
    clear hb2 hO
    go_wp2
    go_returns
    exact ⟨_, rfl, HO.out, q2⟩

/-- What holds in the loop: the row of states, the goals. -/
structure FsI (w wr : World) (p : Pz) (L : List UInt8) (vv : Value) (g n k : Nat) : Prop where
  row : wr.ownsRow w.heap.size 32 8 vv n (cellsS (WL p L))
  goals : GoalsAt wr g p.x p.y p.t
  none : ∀ j s, j < k → (WL p L)[j]? = some s → metP p.x p.y p.t s = false
  below : Below w.heap.size w wr
set_option maxHeartbeats 1600000 in
theorem implFS_any (p : Pz) (v : ByteArray) (w : World) (hs : p.b.size ≤ 1048576) (hv : v.size ≤ 1048576) (hg : Glob w) : Calls Tryd.prog 22 #[Pz.v p, .string v] w fun e w' => e = .returned (.tuple #[.string (zsS p v), .bool (zsB p v)]) ∧ Below w.heap.size w w' := by
  obtain ⟨W0, hW, P0, q0⟩ := pz_start p w
  have HW := hide hW
  have HG := hide (glob_to q0 hg rfl)
  have HWF := hide (fun wx hx => wayFrom_any p v wx hs hv hx)
  have HGO := hide (goalsOf_any p)
  have HAG := hide (fun (g : Nat) (u : St) (wx : World) (h2 : GoalsAt wx g p.x p.y p.t) => agreeS_any p.x p.y p.t g u wx h2)
  have hwl := WL_len p v.data.toList
  have hvl : v.data.toList.length = v.size := by simp
  obtain ⟨n, hn⟩ : ∃ n, n = (WL p v.data.toList).length := ⟨_, rfl⟩
  rw [← hn] at HWF hwl
  have HN := hide hn
  generalize wb p v.data.toList = ok at HWF
  obtain ⟨l0, ⟨a0, a1, a2, a3, a4, a5, a6, a7, a8, a9, a10, a11⟩, -⟩ := P0.all
  have hnv : n ≤ v.size + 1 := by omega
  have hn61 : n ≤ 61 := hwl.2
  have HV := hide hv
  clear hW hg hs hv hwl hvl hn
  go_enter Tryd.func22, Tryd.ntmps22
  go_upto_region 1 with (fail)
  rw [HW.out]
  go_wp2_with fail
  refine (HWF.out _ HG.out).mono ?_
  rintro e w1 ⟨vv, rfl, hO, hb1⟩
  have q1 := below_to hb1 q0 q0.size rfl rfl rfl rfl
  have P1 := isPz_to hb1 P0 rfl
  have HO := hide (own_mono hO q0.size)
  clear hb1 hO a0 a1 a2 a3 a4 a5 a6 a7 a8 a9 a10 a11 l0 P0 q0
  obtain ⟨l0, ⟨a0, a1, a2, a3, a4, a5, a6, a7, a8, a9, a10, a11⟩, -⟩ := P1.all
  go_wp2_with fail
  refine (HGO.out _).mono ?_
  rintro e w2 ⟨g, rfl, -, hG, hb2⟩
  have HT := hide (show FsI w w2 p v.data.toList vv g n 0 from ⟨own_to hb2 HO.out rfl, hG, fun _ _ h _ => absurd h (Nat.not_lt_zero _), below_to hb2 q1 q1.size rfl rfl rfl rfl⟩)
  clear hb2 hG HO q1 P1 a0 a1 a2 a3 a4 a5 a6 a7 a8 a9 a10 a11 l0
  rcases HT.out.row.2 with ⟨rfl, h0⟩ | ⟨gq, cq, cur, rfl, -, -, -, -, -, -⟩
  · have HE := hide (zs_none (p := p) (v := v) (fun j s hj hs => by have := HN.out; omega))
    have HB := hide HT.out.below
    clear HT HN hn61 hnv
    subst h0
    go_wp2
    go_loopw [21] (fun i wr => i = .int .i64 0 ∧ Below w.heap.size w wr) (fun _ _ => 0)
    case atStart => exact ⟨rfl, HB.out⟩
    case round =>
      obtain ⟨rfl, hB⟩ := hrel
      go_wp2
      go_returns
      exact ⟨ret_sb2 HE.out, hB⟩
  · go_wp2
    go_loopw [21] (fun i wr => ∃ k : Nat, k ≤ n ∧ i = .int .i64 (k : Int) ∧ FsI w wr p v.data.toList (.slice (some ⟨gq, 0, none⟩) n cq) g n k) (fun i _ => n - (intOf i).toNat)
    case atStart => exact ⟨0, Nat.zero_le _, rfl, HT.out⟩
    case round =>
      obtain ⟨k, hk, rfl, T⟩ := hrel
      clear HT
      by_cases hlt : k < n
      · obtain ⟨u, hu⟩ : ∃ u, (WL p v.data.toList)[k]? = some u := ⟨_, List.getElem?_eq_getElem (by rw [← HN.out]; exact hlt)⟩
        obtain ⟨c0, c1, c2, c3, c4, c5, c6, c7⟩ := row_cells_at k T.row hlt hu
        have HU := hide hu
        have HT := hide T
        have hki : (k : Int) < (n : Int) := by omega
        have hkv : (k : Int) ≤ (v.size : Int) := by omega
        have w1q : IntKind.i64.wrap ((k : Int) + 1) = (k : Int) + 1 := IntWalk.i64_in _ (by omega)
        have q3 := T.below.alloc T.below.size (.cells #[.int .i64 u.x, .int .i64 u.y, .int .i64 u.d.t, .int .i64 u.d.n, .int .i64 u.d.e, .int .i64 u.d.s, .int .i64 u.d.w, .int .i64 u.d.b] 32)
        have G3 := hide (show GoalsAt (wr.alloc (.cells #[.int .i64 u.x, .int .i64 u.y, .int .i64 u.d.t, .int .i64 u.d.n, .int .i64 u.d.e, .int .i64 u.d.s, .int .i64 u.d.w, .int .i64 u.d.b] 32)) g p.x p.y p.t from goalsAt_to (w0 := wr) ((Below.refl _ _).alloc (Nat.le_refl _) _) T.goals rfl)
        have R3 := hide (T.row.alloc (.cells #[.int .i64 u.x, .int .i64 u.y, .int .i64 u.d.t, .int .i64 u.d.n, .int .i64 u.d.e, .int .i64 u.d.s, .int .i64 u.d.w, .int .i64 u.d.b] 32))
        clear hu T
        go_wp2_with fail
        refine (HAG.out g u _ G3.out).mono ?_
        rintro e w4 ⟨rfl, hb4⟩
        have q4 := below_to hb4 q3 q3.size rfl rfl rfl rfl
        have G4 := hide (goalsAt_to hb4 G3.out rfl)
        have R4 := hide (own_to hb4 R3.out rfl)
        clear hb4 q3 c0 c1 c2 c3 c4 c5 c6 c7 G3 R3
        cases hm : metP p.x p.y p.t u with
        | false =>
          have T4 := hide (show FsI w w4 p v.data.toList (.slice (some ⟨gq, 0, none⟩) n cq) g n (k + 1) from ⟨R4.out, G4.out, fun j s hj hs => by
            by_cases e : j = k
            · subst e
              have := HU.out.symm.trans hs
              injection this with this
              rw [← this]
              exact hm
            · exact HT.out.none j s (by omega) hs, q4⟩)
          clear hm HT
          go_wp2
          go_roundw
          case rel => exact ⟨k + 1, by omega, by go_num, T4.out⟩
          case measure => simp [intOf] <;> omega
        | true =>
          have HE := hide (zs_hit HT.out.none HU.out hm)
          clear hm HT
          go_wp2
          go_returns
          exact ⟨ret_sb2 HE.out, q4⟩
      · obtain rfl : k = n := by omega
        have HE := hide (zs_none (p := p) (v := v) (fun j s hj hs => T.none j s (by rw [HN.out]; exact hj) hs))
        have q4 := T.below
        clear T
        go_wp2
        go_returns
        exact ⟨ret_sb2 HE.out, q4⟩
end Go.Proofs.YtgehcjmhgfhkdaaDoor
