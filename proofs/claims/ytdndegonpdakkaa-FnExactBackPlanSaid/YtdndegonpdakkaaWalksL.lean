/- The walks of the laws of BackWord and TurnRolls. -/
import Derived.Test.YtdndegonpdakkaaWalksK
import Derived.Laws.IdiomStrings
namespace Go.Proofs.Ytdndegonpdakkaa
set_option maxRecDepth 100000
set_option linter.all false
open Go.RowKit

theorem diDirsL_any (w : World) : Calls Try.prog 17 #[] w fun e w' => e = .returned (.string ⟨#[110, 101, 115, 119]⟩) ∧ w = w' := by
  go_enter Try.func17, Try.ntmps17
  go_wp2
  go_ret
  exact ⟨rfl, rfl⟩
theorem dsl0 (wx : World) : (Instr.slice 9 (.string ⟨#[110, 101, 115, 119]⟩) (some (.int .i64 0)) (some (.int .i64 1)) none).run Try.prog wx = .ok (.string ⟨#[110]⟩) wx := by kernel_rfl
theorem dsl1 (wx : World) : (Instr.slice 9 (.string ⟨#[110, 101, 115, 119]⟩) (some (.int .i64 1)) (some (.int .i64 2)) none).run Try.prog wx = .ok (.string ⟨#[101]⟩) wx := by kernel_rfl
theorem dsl2 (wx : World) : (Instr.slice 9 (.string ⟨#[110, 101, 115, 119]⟩) (some (.int .i64 2)) (some (.int .i64 3)) none).run Try.prog wx = .ok (.string ⟨#[115]⟩) wx := by kernel_rfl
theorem dsl3 (wx : World) : (Instr.slice 9 (.string ⟨#[110, 101, 115, 119]⟩) (some (.int .i64 3)) (some (.int .i64 4)) none).run Try.prog wx = .ok (.string ⟨#[119]⟩) wx := by kernel_rfl
theorem idx_lit (c : UInt8) (n : Int) (h : dirIx c.toNat = n) (w : World) : Calls Try.prog 15 #[.string ⟨#[110, 101, 115, 119]⟩, .int .u8 c.toNat] w fun e w' => e = .returned (.int .i64 n) ∧ w = w' := by
  rw [← h]
  exact indexNesw_any c w
theorem info_u8 : (Try.prog.info? 5).map (fun i => (i.zero, i.size, i.bytes)) = some (some (.int .u8 0), 1, 1) := by kernel_rfl
/-- 'string(b)' of a row of bytes that the call owns. -/
theorem bytes_back {w : World} {base g n cap : Nat} {l : List UInt8} (h : w.ownsRow base 5 1 (.slice (some ⟨g, 0, none⟩) n cap) n (bytesV l)) (hn : l.length = n) :
    (convert 27 9 (.slice (some ⟨g, 0, none⟩) n cap)).run Try.prog w = .ok (.string ⟨l.toArray⟩) w := by
  subst hn
  refine run_convert_bytes_back w _ _ 5 _ cap l Try.underlying27 Try.underlying5 Try.underlying9 (fun j hj => ?_)
  exact h.cells rfl j _ (by simp [bytesV, List.getElem?_eq_getElem hj])

theorem opposite_any (c : UInt8) (w : World) (hc : 0 ≤ dirIx c.toNat) : Calls Try.prog 13 #[.int .u8 (c.toNat : Int)] w fun e w' => e = .returned (.int .u8 ((oppC c).toNat : Int)) ∧ w = w' := by
  rcases dir_cases c hc with rfl | rfl | rfl | rfl <;> clear hc
  all_goals
    go_enter Try.func13, Try.ntmps13
    go_wp2
    go_returns
    exact ⟨rfl, rfl⟩

set_option maxHeartbeats 1600000 in
theorem diBack_any (s : ByteArray) (w : World) (hw : isWord s.data.toList = true) : Calls Try.prog 12 #[.string s] w fun e w' => e = .returned (.string ⟨(backW s.data.toList).toArray⟩) ∧ w = w' := by
  have hlen : s.size ≤ 60 := by have := isWord_len hw; simpa using this
  have HW := hide hw
  clear hw
  go_enter Try.func12, Try.ntmps12
  go_wp2
  go_loop [3, 4] (fun o i => ∃ (k : Nat) (t : Int), k ≤ s.size ∧ t + 1 = (k : Int) ∧ i = .int .i64 t ∧ o = .string ⟨(backW (s.data.toList.drop k)).toArray⟩) (fun _ i => (intOf i + 1).toNat)
  case atStart => exact ⟨s.size, _, Nat.le_refl _, by omega, rfl, by rw [List.drop_of_length_le (by simp)]; rfl⟩
  case round =>
    obtain ⟨k, t, hk, ht, rfl, rfl⟩ := hrel
    by_cases hk0 : k = 0
    · subst hk0
      obtain rfl : t = -1 := by omega
      clear hk ht
      rw [List.drop_zero]
      go_wp2
      go_returns
      exact ⟨rfl, rfl⟩
    · obtain ⟨j, rfl⟩ : ∃ j, k = j + 1 := ⟨k - 1, by omega⟩
      obtain rfl : t = (j : Int) := by omega
      have hlt : j < s.size := by omega
      have hd := isWord_dir HW.out (k := j) (by simpa using hlt)
      have HS := hide (backW_step s.data.toList j (by simpa using hlt))
      have hol : (backW (s.data.toList.drop (j + 1))).length ≤ 60 := by rw [backW_len, List.length_drop]; simp; omega
      generalize ho : backW (s.data.toList.drop (j + 1)) = o at HS hol
      clear ho ht hk hk0
      have ha : ¬ 9223372036854775807 < o.length + 1 := by omega
      have hcc := dir_cases s[j] hd
      have e0 : s.data.toList[j]'(by simpa using hlt) = s[j] := rfl
      rcases hcc with hc | hc | hc | hc
      · have D1 := hide (show dirS (s.extract j (j + 1)).data.toList = 0 from by rw [dirS_one s j hlt, hc]; rfl)
        have HE := hide (show backW (s.data.toList.drop j) = o ++ [115] from by rw [HS.out, e0, hc]; rfl)
        have q := dsl2
        clear hc hd e0
        go_wp2_with (first
          | (go_at_call 14; refine (diDir_any _ _).mono ?_; rintro e w' ⟨rfl, rfl⟩; rw [D1.out])
          | (go_at_call 17; refine (diDirsL_any _).mono ?_; rintro e w' ⟨rfl, rfl⟩))
        go_round
        case rel => exact ⟨j, _, by omega, by omega, rfl, by rw [HE.out, ← str_snoc]⟩
        case measure => simp [intOf] <;> omega
      · have D1 := hide (show dirS (s.extract j (j + 1)).data.toList = 1 from by rw [dirS_one s j hlt, hc]; rfl)
        have HE := hide (show backW (s.data.toList.drop j) = o ++ [119] from by rw [HS.out, e0, hc]; rfl)
        have q := dsl3
        clear hc hd e0
        go_wp2_with (first
          | (go_at_call 14; refine (diDir_any _ _).mono ?_; rintro e w' ⟨rfl, rfl⟩; rw [D1.out])
          | (go_at_call 17; refine (diDirsL_any _).mono ?_; rintro e w' ⟨rfl, rfl⟩))
        go_round
        case rel => exact ⟨j, _, by omega, by omega, rfl, by rw [HE.out, ← str_snoc]⟩
        case measure => simp [intOf] <;> omega
      · have D1 := hide (show dirS (s.extract j (j + 1)).data.toList = 2 from by rw [dirS_one s j hlt, hc]; rfl)
        have HE := hide (show backW (s.data.toList.drop j) = o ++ [110] from by rw [HS.out, e0, hc]; rfl)
        have q := dsl0
        clear hc hd e0
        go_wp2_with (first
          | (go_at_call 14; refine (diDir_any _ _).mono ?_; rintro e w' ⟨rfl, rfl⟩; rw [D1.out])
          | (go_at_call 17; refine (diDirsL_any _).mono ?_; rintro e w' ⟨rfl, rfl⟩))
        go_round
        case rel => exact ⟨j, _, by omega, by omega, rfl, by rw [HE.out, ← str_snoc]⟩
        case measure => simp [intOf] <;> omega
      · have D1 := hide (show dirS (s.extract j (j + 1)).data.toList = 3 from by rw [dirS_one s j hlt, hc]; rfl)
        have HE := hide (show backW (s.data.toList.drop j) = o ++ [101] from by rw [HS.out, e0, hc]; rfl)
        have q := dsl1
        clear hc hd e0
        go_wp2_with (first
          | (go_at_call 14; refine (diDir_any _ _).mono ?_; rintro e w' ⟨rfl, rfl⟩; rw [D1.out])
          | (go_at_call 17; refine (diDirsL_any _).mono ?_; rintro e w' ⟨rfl, rfl⟩))
        go_round
        case rel => exact ⟨j, _, by omega, by omega, rfl, by rw [HE.out, ← str_snoc]⟩
        case measure => simp [intOf] <;> omega

/-- What the program's undone word rests on in the round. -/
def BackI (w wr : World) (v : Value) (n : Nat) (l : List UInt8) : Prop := v = .slice (some ⟨w.heap.size, 0, none⟩) l.length n ∧ wr.ownsRow w.heap.size 5 1 (.slice (some ⟨w.heap.size, 0, none⟩) l.length n) l.length (bytesV l) ∧ Below w.heap.size w wr

/-- What both say. -/
def bkS (l : List UInt8) : ByteArray := if isWord l = true then ⟨(backW l).toArray⟩ else ⟨#[]⟩
/-- What the program's turned word rests on in the round: k bytes turned, the rest as they were. -/
def TurnI (w wr : World) (v : Value) (cap k : Nat) (l : List UInt8) : Prop := v = .slice (some ⟨w.heap.size, 0, none⟩) l.length cap ∧ (∃ cs : Array Value, wr.heap[w.heap.size]? = some (.cells cs 5 (cs.size, cs.size + 1)) ∧ ∀ j (hj : j < l.length), cs[j]? = some (.int .u8 ((if j < k then turnC l[j] else l[j]).toNat : Int))) ∧ Below w.heap.size w wr
theorem TurnI.cell {w wr : World} {v : Value} {cap k j : Nat} {l : List UInt8} (h : TurnI w wr v cap k l) (hj : j < l.length) : wr.cell? ⟨w.heap.size, j, none⟩ = some (.int .u8 ((if j < k then turnC (l[j]'hj) else l[j]'hj).toNat : Int)) ∧ wr.frozen? ⟨w.heap.size, j, none⟩ = false := by
  obtain ⟨_, ⟨cs, h1, h2⟩, _⟩ := h
  have hc := h2 j hj
  have hlt : j < cs.size := (Array.getElem?_eq_some_iff.1 hc).1
  constructor
  · simp [World.cell?, h1, hc]
  · simp [World.frozen?, h1]; omega
theorem TurnI.step {w wr : World} {v : Value} {cap k : Nat} {l : List UInt8} (h : TurnI w wr v cap k l) (hk : k < l.length) : TurnI w (wr.setCell ⟨w.heap.size, k, none⟩ (.int .u8 ((turnC (l[k]'hk)).toNat : Int))) v cap (k + 1) l := by
  obtain ⟨h0, ⟨cs, h1, h2⟩, h3⟩ := h
  have hks : k < cs.size := (Array.getElem?_eq_some_iff.1 (h2 k hk)).1
  refine ⟨h0, ⟨cs.set k (.int .u8 ((turnC (l[k]'hk)).toNat : Int)) hks, ?_, ?_⟩, h3.setCell (Nat.le_refl _) _⟩
  · have := cells_set h1 k hks (.int .u8 ((turnC (l[k]'hk)).toNat : Int))
    simpa using this
  · intro j hj
    rw [Array.getElem?_set]
    by_cases e : k = j
    · subst e
      rw [if_pos rfl, if_pos (by omega)]
    · rw [if_neg e, h2 j hj]
      by_cases hjk : j < k
      · rw [if_pos hjk, if_pos (by omega)]
      · rw [if_neg hjk, if_neg (by omega)]
theorem TurnI.done {w wr : World} {v : Value} {cap : Nat} {l : List UInt8} (h : TurnI w wr v cap l.length l) : (convert 27 9 (.slice (some ⟨w.heap.size, 0, none⟩) l.length cap)).run Try.prog wr = .ok (.string ⟨(turnW l).toArray⟩) wr := by
  have := run_convert_bytes_back (P := Try.prog) wr 27 9 5 ⟨w.heap.size, 0, none⟩ cap (turnW l) Try.underlying27 Try.underlying5 Try.underlying9 (fun j hj => by
    have hj' : j < l.length := by rwa [turnW_len] at hj
    have := (h.cell hj').1
    rw [if_pos hj'] at this
    rw [show ((⟨w.heap.size, 0, none⟩ : Addr).add j) = ⟨w.heap.size, j, none⟩ from by unfold Addr.add; split <;> simp_all, this]
    simp [turnW])
  rwa [turnW_len] at this

/-- What both say. -/
def tuS (l : List UInt8) : ByteArray := if isWord l = true then ⟨(turnW l).toArray⟩ else ⟨#[]⟩
end Go.Proofs.Ytdndegonpdakkaa
