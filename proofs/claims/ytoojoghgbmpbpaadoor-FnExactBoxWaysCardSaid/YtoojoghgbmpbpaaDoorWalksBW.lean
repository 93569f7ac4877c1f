/- The walk of the law of BoxWays. -/
import Derived.Test.YtoojoghgbmpbpaaDoorBxRoll
import Derived.Test.YtoojoghgbmpbpaaDoorBxAlongI
import Derived.Test.YtoojoghgbmpbpaaDoorWalksTB
import Derived.Test.YtoojoghgbmpbpaaDoorOpenBox
import Derived.Laws.IdiomStrings
import Derived.Deep.CutRange
import Derived.Laws.OwnMore
namespace Go.Proofs.YtoojoghgbmpbpaaDoor
set_option maxRecDepth 100000
set_option linter.all false
open Go.RowKit
attribute [local go_sem ↓] Go.wp_at_zero Go.wp_at_succ

theorem diDirsU_any (w : World) : Calls Tryd.prog 43 #[] w fun e w' => e = .returned (.string ⟨#[110, 101, 115, 119]⟩) ∧ w = w' := by
  go_enter Tryd.func43, Tryd.ntmps43
  go_wp2
  go_ret
  exact ⟨rfl, rfl⟩
/-- The sign of a direction's number. -/
def dirN : Nat → UInt8
  | 0 => 110
  | 1 => 101
  | 2 => 115
  | _ => 119
theorem dixU : ∀ (j : Nat) (_ : j < 4) (wx : World), (Instr.index 9 (.string ⟨#[110, 101, 115, 119]⟩) (.int .i64 (j : Int))).run Tryd.prog wx = .ok (.int .u8 ((dirN j).toNat : Int)) wx
  | 0, _, _ => by kernel_rfl
  | 1, _, _ => by kernel_rfl
  | 2, _, _ => by kernel_rfl
  | 3, _, _ => by kernel_rfl
theorem dslU : ∀ (j : Nat) (_ : j < 4) (wx : World), (Instr.slice 9 (.string ⟨#[110, 101, 115, 119]⟩) (some (.int .i64 (j : Int))) (some (.int .i64 ((j : Int) + 1))) none).run Tryd.prog wx = .ok (.string ⟨#[dirN j]⟩) wx
  | 0, _, _ => by kernel_rfl
  | 1, _, _ => by kernel_rfl
  | 2, _, _ => by kernel_rfl
  | 3, _, _ => by kernel_rfl
theorem dirIx_N : ∀ (j : Nat) (_ : j < 4), dirIx (dirN j).toNat = (j : Int)
  | 0, _ => rfl
  | 1, _ => rfl
  | 2, _ => rfl
  | 3, _ => rfl
theorem own_lt2 {w : World} {B C : Nat} {e : TypeId} {z n m cap : Nat} {xs : List Value} (h : w.ownsRow B e z (.slice (some ⟨C, 0, none⟩) n cap) m xs) : C < w.heap.size := by
  rcases h.2 with ⟨h0, _⟩ | ⟨g, cap', cur, hv, _, hg, _⟩
  · cases h0
  · injection hv with hv
    injection hv with hv
    injection hv with hv
    subst hv
    rcases Nat.lt_or_ge C w.heap.size with hlt | hge
    · exact hlt
    · rw [Array.getElem?_eq_none hge] at hg; cases hg

/-- The directions in which a box can be rolled. -/
def mvX (l : List UInt8) (b : Bx) : Nat → List UInt8
  | 0 => []
  | k + 1 => if goodX (splitP l) (tipX b (k : Int)) = true then mvX l b k ++ [dirN k] else mvX l b k
theorem mvX_len (l : List UInt8) (b : Bx) : ∀ k, (mvX l b k).length ≤ k
  | 0 => Nat.le_refl _
  | k + 1 => by
    have := mvX_len l b k
    unfold mvX
    split
    · rw [List.length_append]
      simp
      exact this
    · omega
def bwV (l : List UInt8) (b : Bx) : ByteArray := if askX l b = true then ⟨(mvX l b 4).toArray⟩ else ⟨#[]⟩

/-! ### The program -/
def CloX (w : World) (c h : Nat) (bs : ByteArray) : Prop := c < w.heap.size ∧ w.cell? ⟨c, 0, none⟩ = some (.slice (some ⟨h, 0, none⟩) (rowsB bs).length (rowsB bs).length) ∧ RowsAt w h (rowsB bs)
theorem cloX_to {w w0 w1 : World} {c h : Nat} {bs : ByteArray} (hb : Below w0.heap.size w0 w1) (hl : CloX w c h bs) (e : w0.heap = w.heap) : CloX w1 c h bs := by
  obtain ⟨h1, h2, h3⟩ := hl
  have hs := hb.size
  refine ⟨by rw [e] at hs; omega, ?_, (hb.block h (by rw [e]; exact h3.lt)).trans (by rw [e]; exact h3)⟩
  rw [hb.cell (p := ⟨c, 0, none⟩) (by rw [e]; exact h1)]
  have h5 : w0.heap[(⟨c, 0, none⟩ : Addr).block]? = w.heap[(⟨c, 0, none⟩ : Addr).block]? := by rw [e]
  rw [World.cell?_of_block h5]
  exact h2
theorem cloX_lt {w : World} {c h : Nat} {bs : ByteArray} (hl : CloX w c h bs) : c < w.heap.size ∧ h < w.heap.size := ⟨hl.1, hl.2.2.lt⟩
theorem cloX_block {B : Nat} {w w1 : World} {c h : Nat} {bs : ByteArray} (hlt : c < B ∧ h < B) (hb : Below B w w1) (hl : CloX w c h bs) : CloX w1 c h bs := by
  obtain ⟨h1, h2, h3⟩ := hl
  have hs := hb.size
  exact ⟨by omega, (hb.cell (p := ⟨c, 0, none⟩) hlt.1).trans h2, (hb.block h hlt.2).trans h3⟩
set_option maxHeartbeats 800000 in
theorem onGround1_any (bs : ByteArray) (h c : Nat) (hbz : bs.size ≤ 1048576) (hgd : isGd bs.data.toList = true) (q : Bx) (w : World) (hc : CloX w c h bs) :
    Calls Tryd.prog 67 #[Bx.v q, .pointer (some ⟨c, 0, none⟩)] w fun e w' => e = .returned (.bool (goodX (splitP bs.data.toList) q)) ∧ Below w.heap.size w w' := by
  have q0 : Below w.heap.size w (w.alloc (.cells #[.int .i64 q.x, .int .i64 q.y, .int .i64 q.p] 27)) := by go_grown
  have hc1 := cloX_to q0 hc rfl
  have HR := hide hc1.2.2
  have c9 := hc1.2.1
  have X0 : IsX (w.alloc (.cells #[.int .i64 q.x, .int .i64 q.y, .int .i64 q.p] 27)) w.heap.size q 27 := IsX.new
  obtain ⟨l0, ⟨a0, a1, a2⟩, -⟩ := X0.all
  have HGD := hide hgd
  clear hc hc1 hgd
  go_enter Tryd.func67, Tryd.ntmps67
  go_wp2_with fail
  refine (isBoxOn_any bs h q _ hbz HGD.out HR.out).mono ?_
  rintro e w1 ⟨rfl, hb1⟩
  have q1 := below_after q0 hb1 q0.size
  go_wp2
  go_returns
  exact ⟨rfl, q1⟩
theorem onGround_any (bs : ByteArray) (h : Nat) (w : World) (hl : RowsAt w h (rowsB bs)) :
    Calls Tryd.prog 47 #[.slice (some ⟨h, 0, none⟩) (rowsB bs).length (rowsB bs).length] w fun e w' => ∃ c, e = .returned (.func (.func 67) #[] #[.pointer (some ⟨c, 0, none⟩)]) ∧ CloX w' c h bs ∧ Below w.heap.size w w' := by
  have hmf : ∀ (fn : Fn) (first cap : Array Value) (w : World), (Instr.makeFunc fn first cap).run Tryd.prog w = .ok (.func fn first cap) w := fun _ _ _ _ => rfl
  have HC := hide (show CloX (w.alloc (.cells #[.slice (some ⟨h, 0, none⟩) (rowsB bs).length (rowsB bs).length] 47)) w.heap.size h bs from ⟨by simp, by rw [World.cell?_alloc_mark]; rfl, rowsAt_to (w0 := w) ((Below.refl _ _).alloc (Nat.le_refl _) _) hl rfl⟩)
  clear hl
  generalize (rowsB bs).length = n at HC ⊢
  go_enter Tryd.func47, Tryd.ntmps47
  go_wp2
  go_returns
  exact ⟨_, rfl, HC.out, by go_grown⟩
set_option maxHeartbeats 4000000 in
theorem movesX_any (bs : ByteArray) (h c : Nat) (hbz : bs.size ≤ 1048576) (hgd : isGd bs.data.toList = true) (b : Bx) (hnr : nearB b) (w : World) (hc : CloX w c h bs) :
    Calls Tryd.prog 45 #[Bx.v b, .func (.func 46) #[] #[], .func (.func 67) #[] #[.pointer (some ⟨c, 0, none⟩)]] w fun e w' => e = .returned (.string ⟨(mvX bs.data.toList b 4).toArray⟩) ∧ Below w.heap.size w w' := by
  obtain ⟨i0, hi, hz0, hz1, hz2⟩ := info_parts info_byte
  have HI := hide hi
  have HZ0 := hide hz0
  have HZ1 := hide hz1
  have HZ2 := hide hz2
  have HBZ := hide hbz
  have HGD := hide hgd
  have HNR := hide hnr
  have q1 : Below w.heap.size w (w.alloc (.cells #[.int .i64 b.x, .int .i64 b.y, .int .i64 b.p] 27)) := by go_grown
  have u1 : IsX (w.alloc (.cells #[.int .i64 b.x, .int .i64 b.y, .int .i64 b.p] 27)) w.heap.size b 27 := IsX.new
  have HC1 := hide (cloX_to q1 hc rfl)
  have hbc := cloX_lt hc
  clear hi hz0 hz1 hz2 hbz hgd hnr hc
  go_enter Tryd.func45, Tryd.ntmps45
  go_wp2_with (at_make; refine wpList_make_own _ rfl _ _ 42 rfl (w.alloc (.cells #[.int .i64 b.x, .int .i64 b.y, .int .i64 b.p] 27)).heap.size 5 i0 (.int .u8 0) 1 Tryd.underlying42 HI.out HZ0.out HZ1.out .i64 .i64 _ 4 rfl rfl (by omega) (by rw [HZ2.out]; omega) (by unfold maxLen; omega) (Nat.le_refl _) ?_; intro w0 hown0 hgrow0)
  have hbm : Below (w.alloc (.cells #[.int .i64 b.x, .int .i64 b.y, .int .i64 b.p] 27)).heap.size (w.alloc (.cells #[.int .i64 b.x, .int .i64 b.y, .int .i64 b.p] 27)) w0 := (Below.refl _ _).grown hgrow0 (Nat.le_refl _) (fun k hk => by cases hk)
  have u0 := isX_to hbm u1 rfl
  have C0 := hide (cloX_to hbm HC1.out rfl)
  have q0 := below_to hbm q1 q1.size rfl rfl rfl rfl
  have hBl : w.heap.size + 1 = (w.alloc (.cells #[.int .i64 b.x, .int .i64 b.y, .int .i64 b.p] 27)).heap.size := by simp
  clear hgrow0 hbm u1 HC1 q1
  rw [← hBl] at hown0
  clear hBl
  obtain ⟨B, hBl⟩ : ∃ B, B = w.heap.size + 1 := ⟨_, rfl⟩
  rw [← hBl] at hown0 ⊢
  have hBB : w.heap.size ≤ B := by omega
  have HBL := hide (show w.heap.size < B from by omega)
  have HBC := hide (show c < B ∧ h < B from by omega)
  clear hBl hbc
  go_wp2
  go_loopw [10, 8, 7] (fun i _ o wr => ∃ k : Nat, k ≤ 4 ∧ i = .int .i64 (k : Int) ∧ o = .slice (some ⟨B, 0, none⟩) (mvX bs.data.toList b k).length 4 ∧ wr.ownsRow B 5 1 (.slice (some ⟨B, 0, none⟩) (mvX bs.data.toList b k).length 4) (mvX bs.data.toList b k).length (bytesV (mvX bs.data.toList b k)) ∧ IsX wr w.heap.size b 27 ∧ CloX wr c h bs ∧ Below w.heap.size w wr) (fun i _ _ _ => 4 - (intOf i).toNat)
  case atStart => exact ⟨0, by omega, rfl, rfl, hown0, u0, C0.out, q0⟩
  case round =>
    obtain ⟨k, hk, rfl, rfl, O, u, CC, q⟩ := hrel
    clear u0 C0 q0 hown0
    by_cases hlt : k < 4
    · obtain ⟨l0, ⟨a0, a1, a2⟩, -⟩ := u.all
      have hki : (k : Int) < 4 := by omega
      have HK := hide (show mvX bs.data.toList b (k + 1) = (if goodX (splitP bs.data.toList) (tipX b (k : Int)) = true then mvX bs.data.toList b k ++ [dirN k] else mvX bs.data.toList b k) from rfl)
      have hol := mvX_len bs.data.toList b k
      generalize ho : mvX bs.data.toList b k = o at hol HK O
      clear ho
      have HCL := hide CC
      have HO := hide O
      clear CC O
      have hdx := dixU k hlt
      have HTP := hide (show ∀ wx : World, Calls Tryd.prog 46 #[Bx.v b, .int .u8 ((dirN k).toNat : Int)] wx fun e w' => e = .returned (Bx.v (tipX b (k : Int))) ∧ Below wx.heap.size wx w' from fun wx => by
        have := tipped_any b (dirN k) HNR.out (by rw [dirIx_N k hlt]; omega) wx
        rwa [dirIx_N k hlt] at this)
      generalize tipX b (k : Int) = r at HTP HK
      cases hh : goodX (splitP bs.data.toList) r
      · have HS := hide (show mvX bs.data.toList b (k + 1) = o from by rw [HK.out, hh]; rfl)
        have HHIT := hide hh
        clear hh
        go_upto_region 5 with (fail)
        go_region_held3 (fun w' => w'.cell? ⟨w.heap.size, 0, none⟩ = some (.int .i64 b.x) ∧ w'.cell? ⟨w.heap.size, 1, none⟩ = some (.int .i64 b.y) ∧ w'.cell? ⟨w.heap.size, 2, none⟩ = some (.int .i64 b.p)) (first | (refine ⟨?_, ?_, ?_⟩ <;> with_reducible assumption) | (refine ⟨?_, ?_, ?_⟩ <;> assumption))
          (first
            | (go_at_call 46; (refine (HTP.out _).mono ?_); rintro e w2 ⟨rfl, hb2⟩; have u2 := isX_to hb2 u rfl; have C2 := hide (cloX_to hb2 HCL.out rfl); have O2 := hide (own_to hb2 HO.out rfl); have q2 := below_to hb2 q q.size rfl rfl rfl rfl; obtain ⟨m0, ⟨b0, b1, b2⟩, -⟩ := u2.all; clear hb2)
            | (go_at_call 67; (refine (onGround1_any bs h c HBZ.out HGD.out r _ C2.out).mono ?_); rintro e w3 ⟨rfl, hb3⟩; rw [HHIT.out]; have u3 := isX_to hb3 u2 rfl; have C3 := hide (cloX_to hb3 C2.out rfl); have O3 := hide (own_to hb3 O2.out rfl); have q3 := below_to hb3 q2 q2.size rfl rfl rfl rfl; obtain ⟨n0, ⟨d0, d1, d2⟩, -⟩ := u3.all; clear hb3))
        go_wp2
        go_roundw
        case rel => exact ⟨k + 1, by omega, by go_num, by rw [HS.out], by rw [HS.out]; exact O3.out, u3, C3.out, q3⟩
        case measure => simp [intOf] <;> omega
      · have HS := hide (show mvX bs.data.toList b (k + 1) = o ++ [dirN k] from by rw [HK.out, hh]; rfl)
        have HHIT := hide hh
        clear hh
        go_upto_region 5 with (fail)
        go_region_held3 (fun w' => w'.cell? ⟨w.heap.size, 0, none⟩ = some (.int .i64 b.x) ∧ w'.cell? ⟨w.heap.size, 1, none⟩ = some (.int .i64 b.y) ∧ w'.cell? ⟨w.heap.size, 2, none⟩ = some (.int .i64 b.p)) (first | (refine ⟨?_, ?_, ?_⟩ <;> with_reducible assumption) | (refine ⟨?_, ?_, ?_⟩ <;> assumption))
          (first
            | (go_at_call 46; (refine (HTP.out _).mono ?_); rintro e w2 ⟨rfl, hb2⟩; have u2 := isX_to hb2 u rfl; have C2 := hide (cloX_to hb2 HCL.out rfl); have O2 := hide (own_to hb2 HO.out rfl); have q2 := below_to hb2 q q.size rfl rfl rfl rfl; obtain ⟨m0, ⟨b0, b1, b2⟩, -⟩ := u2.all; clear hb2)
            | (go_at_call 67; (refine (onGround1_any bs h c HBZ.out HGD.out r _ C2.out).mono ?_); rintro e w3 ⟨rfl, hb3⟩; rw [HHIT.out]; have u3 := isX_to hb3 u2 rfl; have C3 := hide (cloX_to hb3 C2.out rfl); have O3 := hide (own_to hb3 O2.out rfl); have q3 := below_to hb3 q2 q2.size rfl rfl rfl rfl; obtain ⟨n0, ⟨d0, d1, d2⟩, -⟩ := u3.all; clear hb3))
        have hz3 := q3.size
        have hO3 := own_lt2 O3.out
        clear d0 d1 d2 n0 b0 b1 b2 m0 a0 a1 a2 l0
        go_wp2_with (at_builtin; refine wpList_append_fits _ rfl _ _ 42 rfl B 5 i0 1 Tryd.underlying42 HI.out HZ1.out B o.length 4 _ rfl (O3.out.alloc _) ⟨w3.heap.size, 0, none⟩ 1 1 [.int .u8 ((dirN k).toNat : Int)] rfl rfl ?c1 ?c2 (by omega) ?_)
        case c1 =>
          intro j u hj
          match j, hj with
          | 0, hj => simp at hj; subst hj; simp [Addr.add, World.cell?_alloc_mark]
        case c2 => intro u hu; simp at hu; subst hu; rfl
        · intro w4 hown4 hg4
          have hb4 : Below B (w3.alloc (.cells #[.int .u8 ((dirN k).toNat : Int)] 5)) w4 := (Below.refl B _).grown hg4 (by simp; omega) (fun j hj => by cases hj; exact Nat.le_refl _)
          have hO4 := hide (show w4.ownsRow B 5 1 (.slice (some ⟨B, 0, none⟩) (o.length + 1) 4) (o.length + 1) (bytesV o ++ [.int .u8 ((dirN k).toNat : Int)]) from hown4)
          have u4 : IsX w4 w.heap.size b 27 := (hb4.block _ HBL.out).trans (u3.alloc _)
          have C4 := hide (show CloX w4 c h bs from cloX_block HBC.out hb4 (cloX_to ((Below.refl _ _).alloc (Nat.le_refl _) _) C3.out rfl))
          have q4 : Below w.heap.size w w4 := (q3.alloc hz3 _).grown hg4 (by simp; omega) (fun j hj => by cases hj; exact hBB)
          clear hown4 hg4 hb4
          go_wp2
          go_roundw
          case rel =>
            refine ⟨k + 1, by omega, by go_num, by rw [HS.out]; simp, ?_, u4, C4.out, q4⟩
            rw [HS.out, bytesV_snoc, List.length_append]
            exact hO4.out
          case measure => simp [intOf] <;> omega
    · obtain rfl : k = 4 := by omega
      have hbk := bytes_backT O rfl
      go_wp2
      go_returns
      exact ⟨rfl, q⟩

theorem askX_both {l : List UInt8} {b : Bx} (h : askX l b = true) : isGd l = true ∧ goodX (splitP l) b = true := by
  unfold askX at h
  rwa [Bool.and_eq_true] at h
set_option maxHeartbeats 1600000 in
theorem implBW_any (s : ByteArray) (b : Bx) (w : World) (hs : s.size ≤ 1048576) (hg : Glob w) : Calls Tryd.prog 22 #[.string s, Bx.v b] w fun e w' => e = .returned (.tuple #[.string (bwV s.data.toList b), .bool (askX s.data.toList b)]) ∧ Below w.heap.size w w' := by
  have q0 : Below w.heap.size w (w.alloc (.cells #[.int .i64 b.x, .int .i64 b.y, .int .i64 b.p] 27)) := by go_grown
  have X0 : IsX (w.alloc (.cells #[.int .i64 b.x, .int .i64 b.y, .int .i64 b.p] 27)) w.heap.size b 27 := IsX.new
  have HGL := hide (show Glob (w.alloc (.cells #[.int .i64 b.x, .int .i64 b.y, .int .i64 b.p] 27)) from glob_to (w0 := w) q0 hg rfl)
  clear hg
  cases hask : askX s.data.toList b
  · have hv : bwV s.data.toList b = ⟨#[]⟩ := by unfold bwV; rw [hask]; rfl
    rw [hv]
    have key : ∀ W0 : World, Glob W0 → Calls Tryd.prog 44 #[.string s, Bx.v b] W0 fun e w' => e = .returned (.tuple #[.slice none 0 0, .bool false]) ∧ Below W0.heap.size W0 w' := by
      intro W0 hg0
      cases hgd : isGd s.data.toList
      · exact groundUnder_bad s b W0 hs hg0 hgd
      · exact groundUnder_off s b W0 hs hg0 hgd (by unfold askX at hask; rw [hgd, Bool.true_and] at hask; exact hask)
    have HK := hide key
    clear key hask hv
    go_enter Tryd.func22, Tryd.ntmps22
    go_wp2_with fail
    generalize w.alloc (.cells #[.int .i64 b.x, .int .i64 b.y, .int .i64 b.p] 27) = W0 at X0 q0 HGL ⊢
    refine (HK.out _ HGL.out).mono ?_
    rintro e w1 ⟨rfl, hb1⟩
    have q1 := below_to hb1 q0 q0.size rfl rfl rfl rfl
    clear hb1
    go_wp2
    go_returns
    exact ⟨rfl, q1⟩
  · obtain ⟨hgd, hgx⟩ := askX_both hask
    have H := hide hgd
    have HB := hide hgx
    have hnr := good_near hgd hgx
    have HNR := hide hnr
    have hv : bwV s.data.toList b = ⟨(mvX s.data.toList b 4).toArray⟩ := by unfold bwV; rw [hask]; rfl
    rw [hv]
    have HMV := hide (fun (h c : Nat) (wx : World) (hc : CloX wx c h s) => movesX_any s h c hs hgd b hnr wx hc)
    generalize mvX s.data.toList b 4 = mv at HMV ⊢
    clear hask hv hgd hgx hnr
    go_enter Tryd.func22, Tryd.ntmps22
    go_wp2_with fail
    generalize w.alloc (.cells #[.int .i64 b.x, .int .i64 b.y, .int .i64 b.p] 27) = W0 at X0 q0 HGL ⊢
    refine (groundUnder_on s b _ hs HGL.out H.out HB.out).mono ?_
    rintro e w1 ⟨rfl, ha, hb1⟩
    have X1 := isX_to hb1 X0 rfl
    have q1 := below_to hb1 q0 q0.size rfl rfl rfl rfl
    generalize W0.heap.size + 1 = gR at ha ⊢
    have HA := hide (show RowsAt w1.drew gR (rowsB s) from ha)
    clear hb1 X0 q0 HGL ha
    go_wp2_with fail
    obtain ⟨l0, ⟨a0, a1, a2⟩, -⟩ := X1.all
    go_region_held3 (fun w' => w'.cell? ⟨w.heap.size, 0, none⟩ = some (.int .i64 b.x) ∧ w'.cell? ⟨w.heap.size, 1, none⟩ = some (.int .i64 b.y) ∧ w'.cell? ⟨w.heap.size, 2, none⟩ = some (.int .i64 b.p)) (first | (refine ⟨?_, ?_, ?_⟩ <;> with_reducible assumption) | (refine ⟨?_, ?_, ?_⟩ <;> assumption))
      (first
        | (go_at_call 47; (refine (onGround_any s gR _ HA.out).mono ?_); rintro e w2 ⟨cc, rfl, hcl, hb2⟩; have X2 := isX_to hb2 X1 rfl; have C2 := hide hcl; have Q2 := below_to hb2 q1 q1.size rfl rfl rfl rfl; obtain ⟨m0, ⟨b0, b1, b2⟩, -⟩ := X2.all; clear hb2 hcl)
        | (go_at_call 45; (refine (HMV.out gR cc _ C2.out).mono ?_); rintro e w3 ⟨rfl, hb3⟩; have X3 := isX_to hb3 X2 rfl; have Q3 := below_to hb3 Q2 Q2.size rfl rfl rfl rfl; obtain ⟨n0, ⟨d0, d1, d2⟩, -⟩ := X3.all; clear hb3))
    go_wp2
    go_returns
    exact ⟨rfl, Q3⟩
set_option maxHeartbeats 1600000 in
theorem specBW_no (s : ByteArray) (b : Bx) (w : World) (hs : s.size ≤ 1048576) (hask : askX s.data.toList b = false) : Calls Tryd.prog 21 #[.string s, Bx.v b] w fun e w' => e = .returned (.tuple #[.string ⟨#[]⟩, .bool false]) ∧ Below w.heap.size w w' := by
  have q0 : Below w.heap.size w (w.alloc (.cells #[.int .i64 b.x, .int .i64 b.y, .int .i64 b.p] 27)) := by go_grown
  have key : ∀ W0 : World, Calls Tryd.prog 39 #[.string s, Bx.v b] W0 fun e w' => ∃ x y a m c, e = .returned (.tuple #[.agg #[.int .i64 x, .int .i64 y, .slice a m c], .bool false]) ∧ Below W0.heap.size W0 w' := by
    intro W0
    cases hgd : isGd s.data.toList
    · exact (bxAsked_bad s b W0 hs hgd).mono fun e w' hp => ⟨0, 0, none, 0, 0, hp.1, hp.2⟩
    · have hgx : goodX (splitP s.data.toList) b = false := by unfold askX at hask; rw [hgd, Bool.true_and] at hask; exact hask
      exact (bxAsked_in s b W0 hs hgd).mono fun e w' hp => by
        obtain ⟨W, Hh, n, g, cap, _, he, _, hb⟩ := hp
        rw [hgx] at he
        exact ⟨_, _, _, _, _, he, hb⟩
  have HK := hide key
  clear key hask
  go_enter Tryd.func21, Tryd.ntmps21
  go_wp2_with fail
  generalize w.alloc (.cells #[.int .i64 b.x, .int .i64 b.y, .int .i64 b.p] 27) = W0 at q0 ⊢
  refine (HK.out _).mono ?_
  rintro e w1 ⟨x, y, a, m, c, rfl, hb1⟩
  have q1 := below_to hb1 q0 q0.size rfl rfl rfl rfl
  clear hb1
  go_wp2
  go_returns
  exact ⟨rfl, q1.alloc q1.size _⟩
set_option maxHeartbeats 1600000 in
theorem specBW_yes (s : ByteArray) (b : Bx) (w : World) (hs : s.size ≤ 1048576) (hask : askX s.data.toList b = true) : Calls Tryd.prog 21 #[.string s, Bx.v b] w fun e w' => e = .returned (.tuple #[.string ⟨(mvX s.data.toList b 4).toArray⟩, .bool true]) ∧ Below w.heap.size w w' := by
  obtain ⟨hgd, hgx⟩ := askX_both hask
  have H := hide hgd
  have HB := hide hgx
  have HNR := hide (good_near hgd hgx)
  have q0 : Below w.heap.size w (w.alloc (.cells #[.int .i64 b.x, .int .i64 b.y, .int .i64 b.p] 27)) := by go_grown
  have X0 : IsX (w.alloc (.cells #[.int .i64 b.x, .int .i64 b.y, .int .i64 b.p] 27)) w.heap.size b 27 := IsX.new
  clear hask hgd hgx
  go_enter Tryd.func21, Tryd.ntmps21
  go_wp2_with fail
  generalize w.alloc (.cells #[.int .i64 b.x, .int .i64 b.y, .int .i64 b.p] 27) = W0 at q0 X0 ⊢
  refine (bxAsked_in s b _ hs H.out).mono ?_
  rintro e w1 ⟨W, Hh, n, g, cap, hG, rfl, hA, hb1⟩
  rw [HB.out]
  have HG := hide hG
  have X2 := (isX_to hb1 X0 rfl).alloc (.cells #[.int .i64 (W : Int), .int .i64 (Hh : Int), .slice (some ⟨g, 0, none⟩) n cap] 44)
  have G2 : IsG (w1.alloc (.cells #[.int .i64 (W : Int), .int .i64 (Hh : Int), .slice (some ⟨g, 0, none⟩) n cap] 44)) w1.heap.size (W : Int) (Hh : Int) (.slice (some ⟨g, 0, none⟩) n cap) := IsG.new
  have A2 : BytesAt (w1.alloc (.cells #[.int .i64 (W : Int), .int .i64 (Hh : Int), .slice (some ⟨g, 0, none⟩) n cap] 44)) g (splitP s.data.toList).flatten := bytesAt_to ((Below.refl _ _).alloc (Nat.le_refl _) _) hA rfl
  have q1 := below_to hb1 q0 q0.size rfl rfl rfl rfl
  have q2 := q1.alloc q1.size (.cells #[.int .i64 (W : Int), .int .i64 (Hh : Int), .slice (some ⟨g, 0, none⟩) n cap] 44)
  have HST := hide (And.intro X2 (And.intro G2 (And.intro A2 q2)))
  clear hb1 X0 q0 hG q1 hA X2 G2 A2 q2
  go_wp2
  generalize w1.alloc (.cells #[.int .i64 (W : Int), .int .i64 (Hh : Int), .slice (some ⟨g, 0, none⟩) n cap] 44) = W2 at HST ⊢
  generalize w1.heap.size = gB at HST ⊢
  go_loopw [9, 8, 10, 11] (fun i o _ _ wr => ∃ k : Nat, k ≤ 4 ∧ i = .int .i64 (k : Int) ∧ o = .string ⟨(mvX s.data.toList b k).toArray⟩ ∧ IsX wr w.heap.size b 27 ∧ IsG wr gB (W : Int) (Hh : Int) (.slice (some ⟨g, 0, none⟩) n cap) ∧ BytesAt wr g (splitP s.data.toList).flatten ∧ Below w.heap.size w wr) (fun i _ _ _ _ => 4 - (intOf i).toNat)
  case atStart => exact ⟨0, by omega, rfl, rfl, HST.out.1, HST.out.2.1, HST.out.2.2.1, HST.out.2.2.2⟩
  case round =>
    clear HST
    obtain ⟨k, hk, rfl, rfl, X, G, A, q⟩ := hrel
    by_cases hlt : k < 4
    · obtain ⟨l0, ⟨a0, a1, a2⟩, -⟩ := X.all
      obtain ⟨l1, ⟨b0, b1, b2⟩, -⟩ := G.all
      have hki : (k : Int) < 4 := by omega
      have HK := hide (show mvX s.data.toList b (k + 1) = (if goodX (splitP s.data.toList) (tipX b (k : Int)) = true then mvX s.data.toList b k ++ [dirN k] else mvX s.data.toList b k) from rfl)
      have hol := mvX_len s.data.toList b k
      have HA := hide A
      have HBR := hide (fun (wx : World) (hAx : BytesAt wx g (splitP s.data.toList).flatten) => bxRoll_any s.data.toList W Hh n HG.out g cap b (k : Int) wx hAx HNR.out ⟨by omega, by omega⟩)
      generalize mvX s.data.toList b k = o at hol HK ⊢
      generalize rolX s.data.toList b (k : Int) = r at HBR
      generalize goodX (splitP s.data.toList) (tipX b (k : Int)) = bo at HBR HK
      have hds := dslU k hlt
      have w1q : wrap64 ((k : Int) + 1) = (k : Int) + 1 := IntWalk.wrap64_in _ (by omega)
      clear A
      cases bo
      · have HS := hide (show mvX s.data.toList b (k + 1) = o from by rw [HK.out]; rfl)
        go_wp2_with fail
        clear a0 a1 a2 l0 b0 b1 b2 l1
        refine (HBR.out _ HA.out).mono ?_
        rintro e w3 ⟨rfl, hb3⟩
        have X3 := (isX_to hb3 X rfl).alloc (.cells #[.int .i64 r.x, .int .i64 r.y, .int .i64 r.p] 27)
        have G3 := (isG_to hb3 G rfl).alloc (.cells #[.int .i64 r.x, .int .i64 r.y, .int .i64 r.p] 27)
        have A3 : BytesAt (w3.alloc (.cells #[.int .i64 r.x, .int .i64 r.y, .int .i64 r.p] 27)) g (splitP s.data.toList).flatten := bytesAt_to ((Below.refl _ _).alloc (Nat.le_refl _) _) (bytesAt_to hb3 HA.out rfl) rfl
        have q3 := below_to hb3 q q.size rfl rfl rfl rfl
        have q4 := q3.alloc q3.size (.cells #[.int .i64 r.x, .int .i64 r.y, .int .i64 r.p] 27)
        clear hb3 X G q HA q3
        go_wp2
        go_roundw
        case rel => exact ⟨k + 1, by omega, by go_num, by rw [HS.out], X3, G3, A3, q4⟩
        case measure => simp [intOf] <;> omega
      · have HS := hide (show mvX s.data.toList b (k + 1) = o ++ [dirN k] from by rw [HK.out]; rfl)
        have HX := hide (str_snoc o (dirN k))
        go_wp2_with fail
        clear a0 a1 a2 l0 b0 b1 b2 l1
        refine (HBR.out _ HA.out).mono ?_
        rintro e w3 ⟨rfl, hb3⟩
        have X3 := (isX_to hb3 X rfl).alloc (.cells #[.int .i64 r.x, .int .i64 r.y, .int .i64 r.p] 27)
        have G3 := (isG_to hb3 G rfl).alloc (.cells #[.int .i64 r.x, .int .i64 r.y, .int .i64 r.p] 27)
        have A3 : BytesAt (w3.alloc (.cells #[.int .i64 r.x, .int .i64 r.y, .int .i64 r.p] 27)) g (splitP s.data.toList).flatten := bytesAt_to ((Below.refl _ _).alloc (Nat.le_refl _) _) (bytesAt_to hb3 HA.out rfl) rfl
        have q3 := below_to hb3 q q.size rfl rfl rfl rfl
        have q4 := q3.alloc q3.size (.cells #[.int .i64 r.x, .int .i64 r.y, .int .i64 r.p] 27)
        clear hb3 X G q HA q3
        go_wp2_with (go_at_call 43; refine (diDirsU_any _).mono ?_; rintro e w' ⟨rfl, rfl⟩)
        go_roundw
        case rel => exact ⟨k + 1, by omega, by go_num, by rw [HS.out, ← HX.out], X3, G3, A3, q4⟩
        case measure => simp [intOf] <;> omega
    · obtain rfl : k = 4 := by omega
      go_wp2
      go_returns
      exact ⟨rfl, q⟩
theorem specBW_any (s : ByteArray) (b : Bx) (w : World) (hs : s.size ≤ 1048576) : Calls Tryd.prog 21 #[.string s, Bx.v b] w fun e w' => e = .returned (.tuple #[.string (bwV s.data.toList b), .bool (askX s.data.toList b)]) ∧ Below w.heap.size w w' := by
  cases h : askX s.data.toList b
  · have hv : bwV s.data.toList b = ⟨#[]⟩ := by unfold bwV; rw [h]; rfl
    rw [hv]
    exact specBW_no s b w hs h
  · have hv : bwV s.data.toList b = ⟨(mvX s.data.toList b 4).toArray⟩ := by unfold bwV; rw [h]; rfl
    rw [hv]
    exact specBW_yes s b w hs h
set_option maxHeartbeats 1600000 in
theorem walk_BoxWays (v0 : ByteArray) (hv0 : v0.size ≤ maxLen) (x1 : Bx) (w : World) (hg : Glob w) : Calls Tryd.prog 6 #[.string v0, Bx.v x1] w fun e w' => e = .returned (.bool true) ∧ Below w.heap.size w w' := by
  have q0 : Below w.heap.size w (w.alloc (.cells #[.int .i64 x1.x, .int .i64 x1.y, .int .i64 x1.p] 24)) := by go_grown
  have HGL := hide (show Glob (w.alloc (.cells #[.int .i64 x1.x, .int .i64 x1.y, .int .i64 x1.p] 24)) from glob_to (w0 := w) q0 hg rfl)
  clear hg
  by_cases h0 : v0.size ≤ 1048576
  · have HS0 := hide h0
    obtain ⟨z0, hz0⟩ : ∃ z, z = bwV v0.data.toList x1 := ⟨_, rfl⟩
    have HZ0 := hide hz0
    clear hz0
    have e0 : (z0.toList != z0.toList) = false := by simp
    obtain ⟨z1, hz1⟩ : ∃ z, z = askX v0.data.toList x1 := ⟨_, rfl⟩
    have HZ1 := hide hz1
    clear hz1
    have e1 : (z1 != z1) = false := by simp
    go_enter Tryd.func6, Tryd.ntmps6
    go_wp2_with fail
    have X1 : IsX (w.alloc (.cells #[.int .i64 x1.x, .int .i64 x1.y, .int .i64 x1.p] 24)) w.heap.size x1 24 := (IsX.new)
    generalize (w.alloc (.cells #[.int .i64 x1.x, .int .i64 x1.y, .int .i64 x1.p] 24)) = W0 at q0 HGL X1 ⊢
    obtain ⟨l_1, ⟨c_1, d_1, f_1⟩, -⟩ := X1.all
    go_wp2_with fail
    refine (toBox_any x1 _).mono ?_
    rintro e w2 ⟨rfl, hb2⟩
    have Y_x1_2 := isX_to hb2 X1 rfl
    have qb_2 := below_to hb2 q0 q0.size rfl rfl rfl rfl
    have Gb_2 := hide (glob_to hb2 HGL.out rfl)
    clear hb2
    clear l_1 c_1 d_1 f_1
    obtain ⟨l_3, ⟨c_3, d_3, f_3⟩, -⟩ := Y_x1_2.all
    go_wp2_with fail
    refine (specBW_any v0 x1 _ HS0.out).mono ?_
    rintro e w4 ⟨rfl, hb4⟩
    have Y_x1_4 := isX_to hb4 Y_x1_2 rfl
    have qb_4 := below_to hb4 qb_2 qb_2.size rfl rfl rfl rfl
    have Gb_4 := hide (glob_to hb4 Gb_2.out rfl)
    clear hb4
    clear l_3 c_3 d_3 f_3
    obtain ⟨l_5, ⟨c_5, d_5, f_5⟩, -⟩ := Y_x1_4.all
    rw [← HZ0.out, ← HZ1.out]
    go_wp2_with fail
    refine (toBox_any x1 _).mono ?_
    rintro e w6 ⟨rfl, hb6⟩
    have Y_x1_6 := isX_to hb6 Y_x1_4 rfl
    have qb_6 := below_to hb6 qb_4 qb_4.size rfl rfl rfl rfl
    have Gb_6 := hide (glob_to hb6 Gb_4.out rfl)
    clear hb6
    clear l_5 c_5 d_5 f_5
    obtain ⟨l_7, ⟨c_7, d_7, f_7⟩, -⟩ := Y_x1_6.all
    go_wp2_with fail
    refine (implBW_any v0 x1 _ HS0.out Gb_6.out).mono ?_
    rintro e w8 ⟨rfl, hb8⟩
    have Y_x1_8 := isX_to hb8 Y_x1_6 rfl
    have qb_8 := below_to hb8 qb_6 qb_6.size rfl rfl rfl rfl
    have Gb_8 := hide (glob_to hb8 Gb_6.out rfl)
    clear hb8
    clear l_7 c_7 d_7 f_7
    obtain ⟨l_9, ⟨c_9, d_9, f_9⟩, -⟩ := Y_x1_8.all
    rw [← HZ0.out, ← HZ1.out]
    go_wp2
    go_returns
    exact ⟨rfl, qb_8⟩
  · go_enter Tryd.func6, Tryd.ntmps6
    go_wp2
    go_returns
    exact ⟨rfl, by go_grown⟩
end Go.Proofs.YtoojoghgbmpbpaaDoor
