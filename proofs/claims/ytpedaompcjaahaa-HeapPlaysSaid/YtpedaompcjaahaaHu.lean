/-
  The locks; check, checkLive, checkField; root, release, drop of the program's heap. Conditions: none.
-/
import Derived.Test.YtpedaompcjaahaaHt
namespace Go.Proofs.Ytpedaompcjaahaa
open Go.RowKit
open Go.MuLone

set_option maxRecDepth 100000 in
theorem lock_any (b : Nat) (w : World) (h0 : w.cell? ⟨b, 0, none⟩ = some (.int .i32 0)) (h2 : w.cell? ⟨b, 2, none⟩ = some (.int .i32 0)) (hf : ∀ k, w.frozen? ⟨b, k, none⟩ = false) :
    Calls Try.prog 48 #[.pointer (some ⟨b, 0, none⟩)] w fun e w' => e = .returned (.tuple #[]) ∧ w' = (w.setCell ⟨b, 0, none⟩ (.int .i32 1)).setCell ⟨b, 2, none⟩ (.int .i32 1) := by
  go_enter Try.func48, Try.ntmps48
  go_wp2_with (go_at_call 64; refine (lock_free Try.muLib ⟨b, 0, none⟩ _ h0 (hf 0)).mono ?_; rintro e w' ⟨rfl, rfl⟩)
  refine (lock_free Try.muLib ⟨b, 2, none⟩ _ ?_ ?_).mono ?_
  · exact (World.cell?_setCell_other _ ⟨b, 0, none⟩ ⟨b, 2, none⟩ _ (by simp)).trans h2
  · simp [hf 2]
  rintro e w' ⟨rfl, rfl⟩
  go_wp2
  go_end0
  exact ⟨rfl, rfl⟩
set_option maxRecDepth 100000 in
theorem unlock_any (b : Nat) (u : FrameMode) (w : World) (h0 : w.cell? ⟨b, 0, none⟩ = some (.int .i32 1)) (h2 : w.cell? ⟨b, 2, none⟩ = some (.int .i32 1)) (hf : ∀ k, w.frozen? ⟨b, k, none⟩ = false) :
    CallsD Try.prog 49 #[.pointer (some ⟨b, 0, none⟩)] u w fun e u' w' => u' = u ∧ (e = .returned (.tuple #[]) ∧ w' = (w.setCell ⟨b, 2, none⟩ (.int .i32 0)).setCell ⟨b, 0, none⟩ (.int .i32 0)) := by
  go_enter_d Try.func49, Try.ntmps49
  go_wp2_with (go_at_call 65; refine (unlock_held Try.muLib ⟨b, 2, none⟩ _ h2 (hf 2)).mono ?_; rintro e w' ⟨rfl, rfl⟩)
  refine (unlock_held Try.muLib ⟨b, 0, none⟩ _ ?_ ?_).mono ?_
  · exact (World.cell?_setCell_other _ ⟨b, 2, none⟩ ⟨b, 0, none⟩ _ (by simp)).trans h0
  · simp [hf 0]
  rintro e w' ⟨rfl, rfl⟩
  go_wp2
  go_end0
  exact ⟨rfl, rfl⟩

/-- The errors of a cell, of a cell that must not have ended, of a field. -/
def eAny (cs : List Cl) (n : Int) : Int := if n < 0 ∨ (cs.length : Int) ≤ n then 4 else 0
def eLive (cs : List Cl) (n : Int) : Int := if n < 0 ∨ (cs.length : Int) ≤ n then 4 else if (cl cs n.toNat).en = true then 9 else 0
def eField (cs : List Cl) (n f : Int) : Int := if eLive cs n ≠ 0 then eLive cs n else if f < 0 ∨ ((cl cs n.toNat).fs.length : Int) ≤ f then 1 else 0

set_option maxRecDepth 100000 in
set_option maxHeartbeats 1600000 in
theorem check_any (S : Nat → Prop) (b : Nat) (s1 s2 : Int) (cs : List Cl) (ct : Nat → Int) (ns : List Nat) (n : Int) (w : World) (h : St S b s1 s2 cs ct ns w) :
    Calls Try.prog 58 #[.pointer (some ⟨b, 4, none⟩), .int .i64 n] w fun e w' => e = .returned (.int .i64 (eAny cs n)) ∧ w' = w := by
  obtain ⟨vc, vn, _, _, h4, _, hf, _, _, hC, _⟩ := h.open
  obtain ⟨ao, cap, rfl⟩ := hC.form
  clear hC
  by_cases h1 : n < 0
  · have hv : eAny cs n = 4 := if_pos (.inl h1)
    rw [hv]
    clear hv
    go_enter Try.func58, Try.ntmps58
    go_wp2
    go_ret
    exact ⟨rfl, rfl⟩
  · by_cases h2 : ((cs.length : Nat) : Int) ≤ n
    · have hv : eAny cs n = 4 := if_pos (.inr h2)
      rw [hv]
      clear hv
      go_enter Try.func58, Try.ntmps58
      go_wp2
      go_ret
      exact ⟨rfl, rfl⟩
    · have hv : eAny cs n = 0 := if_neg (by omega)
      rw [hv]
      clear hv
      go_enter Try.func58, Try.ntmps58
      go_wp2
      go_ret
      exact ⟨rfl, rfl⟩
theorem toNat_of {n : Int} {l : Nat} (h1 : ¬ n < 0) (h2 : ¬ (l : Int) ≤ n) : ∃ k : Nat, n = (k : Int) ∧ k < l := ⟨n.toNat, by omega, by omega⟩
set_option maxRecDepth 100000 in
set_option maxHeartbeats 1600000 in
theorem checkLive_any (S : Nat → Prop) (b : Nat) (s1 s2 : Int) (cs : List Cl) (ct : Nat → Int) (ns : List Nat) (n : Int) (w : World) (h : St S b s1 s2 cs ct ns w) :
    Calls Try.prog 60 #[.pointer (some ⟨b, 4, none⟩), .int .i64 n] w fun e w' => e = .returned (.int .i64 (eLive cs n)) ∧ w' = w := by
  have hc := fun w (h : St S b s1 s2 cs ct ns w) => check_any S b s1 s2 cs ct ns n w h
  by_cases h1 : n < 0 ∨ ((cs.length : Nat) : Int) ≤ n
  · have hv : eLive cs n = 4 := if_pos h1
    have ha : eAny cs n = 4 := if_pos h1
    rw [hv]
    rw [ha] at hc
    clear hv ha h1
    go_enter Try.func60, Try.ntmps60
    go_wp2_with (go_at_call 58; refine (hc _ h).mono ?_; rintro e w' ⟨rfl, rfl⟩)
    go_ret
    exact ⟨rfl, rfl⟩
  · have ha : eAny cs n = 0 := if_neg h1
    rw [ha] at hc
    obtain ⟨k, rfl, hk⟩ := toNat_of (fun h => h1 (.inl h)) (fun h => h1 (.inr h))
    obtain ⟨g, cap, h4, _, _, _, hcell, _⟩ := h.cell hk
    have hen : w.cell? ⟨g, k * 22 + 19, none⟩ = some (.bool (cl cs k).en) := hcell k 19 hk (by decide)
    cases he : (cl cs k).en
    · have hv : eLive cs (k : Int) = 0 := by
        unfold eLive
        rw [if_neg h1]
        simp [he]
      rw [hv]
      rw [he] at hen
      clear hv ha h1 he hcell
      go_enter Try.func60, Try.ntmps60
      go_wp2_with (go_at_call 58; refine (hc _ h).mono ?_; rintro e w' ⟨rfl, rfl⟩)
      go_ret
      exact ⟨rfl, rfl⟩
    · have hv : eLive cs (k : Int) = 9 := by
        unfold eLive
        rw [if_neg h1]
        simp [he]
      rw [hv]
      rw [he] at hen
      clear hv ha h1 he hcell
      go_enter Try.func60, Try.ntmps60
      go_wp2_with (go_at_call 58; refine (hc _ h).mono ?_; rintro e w' ⟨rfl, rfl⟩)
      go_ret
      exact ⟨rfl, rfl⟩
theorem eLive_in {cs : List Cl} {n : Int} (h : eLive cs n = 0) : ∃ k : Nat, n = (k : Int) ∧ k < cs.length ∧ (cl cs k).en = false := by
  unfold eLive at h
  split at h
  · omega
  · rename_i h1
    obtain ⟨k, rfl, hk⟩ := toNat_of (fun h => h1 (.inl h)) (fun h => h1 (.inr h))
    refine ⟨k, rfl, hk, ?_⟩
    rw [Int.toNat_natCast] at h
    cases he : (cl cs k).en
    · rfl
    · simp [he] at h
theorem eLive_cases (cs : List Cl) (n : Int) : eLive cs n = 0 ∨ eLive cs n = 4 ∨ eLive cs n = 9 := by
  unfold eLive
  split
  · simp
  · split <;> simp
set_option maxRecDepth 100000 in
set_option maxHeartbeats 1600000 in
theorem checkField_any (S : Nat → Prop) (b : Nat) (s1 s2 : Int) (cs : List Cl) (ct : Nat → Int) (ns : List Nat) (n f : Int) (w : World) (h : St S b s1 s2 cs ct ns w) :
    Calls Try.prog 69 #[.pointer (some ⟨b, 4, none⟩), .int .i64 n, .int .i64 f] w fun e w' => e = .returned (.int .i64 (eField cs n f)) ∧ w' = w := by
  have hc := fun w (h : St S b s1 s2 cs ct ns w) => checkLive_any S b s1 s2 cs ct ns n w h
  by_cases h0 : eLive cs n = 0
  · have hfe : eField cs n f = if f < 0 ∨ ((cl cs n.toNat).fs.length : Int) ≤ f then 1 else 0 := if_neg (fun k => k h0)
    rw [hfe]
    rw [h0] at hc
    obtain ⟨k, rfl, hk, _⟩ := eLive_in h0
    rw [Int.toNat_natCast]
    obtain ⟨g, cap, h4, _, _, _, hcell, _⟩ := h.cell hk
    have hsz : w.cell? ⟨g, k * 22 + 16, none⟩ = some (.int .i64 (((cl cs k).fs.length : Nat) : Int)) := hcell k 16 hk (by decide)
    clear hfe h0 hcell
    generalize (cl cs k).fs.length = L at *
    by_cases h1 : f < 0
    · rw [if_pos (.inl h1)]
      go_enter Try.func69, Try.ntmps69
      go_wp2_with (go_at_call 60; refine (hc _ h).mono ?_; rintro e w' ⟨rfl, rfl⟩)
      go_ret
      exact ⟨rfl, rfl⟩
    · by_cases h2 : ((L : Nat) : Int) ≤ f
      · rw [if_pos (.inr h2)]
        go_enter Try.func69, Try.ntmps69
        go_wp2_with (go_at_call 60; refine (hc _ h).mono ?_; rintro e w' ⟨rfl, rfl⟩)
        go_ret
        exact ⟨rfl, rfl⟩
      · rw [if_neg (by omega)]
        go_enter Try.func69, Try.ntmps69
        go_wp2_with (go_at_call 60; refine (hc _ h).mono ?_; rintro e w' ⟨rfl, rfl⟩)
        go_ret
        exact ⟨rfl, rfl⟩
  · have hfe : eField cs n f = eLive cs n := if_pos h0
    rw [hfe]
    rcases eLive_cases cs n with h1 | h1 | h1
    · exact absurd h1 h0
    all_goals
      rw [h1] at hc ⊢
      clear hfe h0 h1
      go_enter Try.func69, Try.ntmps69
      go_wp2_with (go_at_call 60; refine (hc _ h).mono ?_; rintro e w' ⟨rfl, rfl⟩)
      go_ret
      exact ⟨rfl, rfl⟩
theorem eField_in {cs : List Cl} {n f : Int} (h : eField cs n f = 0) : ∃ k m : Nat, n = (k : Int) ∧ f = (m : Int) ∧ k < cs.length ∧ (cl cs k).en = false ∧ m < (cl cs k).fs.length := by
  unfold eField at h
  split at h
  · rename_i h1
    exact absurd h h1
  · rename_i h1
    obtain ⟨k, rfl, hk, he⟩ := eLive_in (Decidable.byContradiction h1)
    split at h
    · omega
    · rename_i h2
      rw [Int.toNat_natCast] at h2
      obtain ⟨m, rfl, hm⟩ := toNat_of (n := f) (fun h => h2 (.inl h)) (fun h => h2 (.inr h))
      exact ⟨k, m, rfl, rfl, hk, he, hm⟩
theorem eField_cases (cs : List Cl) (n f : Int) : eField cs n f = 0 ∨ eField cs n f = 1 ∨ eField cs n f = 4 ∨ eField cs n f = 9 := by
  unfold eField
  split
  · rcases eLive_cases cs n with h | h | h <;> simp [h]
  · split <;> simp

end Go.Proofs.Ytpedaompcjaahaa
