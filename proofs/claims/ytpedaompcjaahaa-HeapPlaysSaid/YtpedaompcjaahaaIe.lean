/-
  Next, Settle, Count, State of the program's heap. Conditions: a heap's size (phi) below 2^20.
-/
import Derived.Test.YtpedaompcjaahaaId
namespace Go.Proofs.Ytpedaompcjaahaa
open Go.RowKit

set_option maxRecDepth 100000 in
set_option maxHeartbeats 1600000 in
theorem Next_hp (S : Nat → Prop) (b : Nat) (h : Hp) (w : World) (hs : SH S b 0 0 h w) (H : Good h) (hp : phi h ≤ 1000000) :
    Calls Try.prog 26 #[.pointer (some ⟨b, 0, none⟩)] w (ToP S b (nextH h).1 (.tuple #[.int .i64 (((nextH h).2.getD 0 : Nat) : Int), .bool (nextH h).2.isSome]) w) := by
  obtain ⟨vc, vn, c0, c2, _, _, hf, hbl, hSb, _, _⟩ := hs.open
  obtain ⟨l1, k1, hz⟩ := lock_hp hs
  have hR := next_hp S b 1 1 h _ l1 H hp
  generalize nextH h = r at *
  have hY : Hid (∀ w2 w3 v, Kp S ((w.setCell ⟨b, 0, none⟩ (.int .i32 1)).setCell ⟨b, 2, none⟩ (.int .i32 1)) w2 → Kp (New S ((w.setCell ⟨b, 0, none⟩ (.int .i32 1)).setCell ⟨b, 2, none⟩ (.int .i32 1)).heap.size) w2 w3 → SH (New S ((w.setCell ⟨b, 0, none⟩ (.int .i32 1)).setCell ⟨b, 2, none⟩ (.int .i32 1)).heap.size) b 0 0 r.1 w3 → ToP S b r.1 v w (.returned v) w3) := fun w2 w3 v q2 r2 r1 => ToP.of k1 q2 r2 r1 hz
  clear hs k1
  go_enter_defers Try.func26, Try.ntmps26
  go_wp2_with (first | (go_at_call 48; refine (lock_any b _ c0 c2 hf).mono ?_; rintro e w' ⟨rfl, rfl⟩))
  refine hR.mono ?_
  rintro e w2 ⟨rfl, q1, q2⟩
  go_wp2
  refine leaves_cons (f := 49) (args := #[.pointer (some ⟨b, 0, none⟩)]) (by simp) (by simp [go_sem]) ?_
  refine (unlock_hp q1 _).mono ?_
  rintro e u' w3 ⟨rfl, rfl, r1, r2⟩
  exact ⟨_, results_tmp2 rfl _ _ _, hY.out _ w3 _ q2 r2 r1⟩
set_option maxRecDepth 100000 in
set_option maxHeartbeats 1600000 in
theorem Settle_hp (S : Nat → Prop) (b : Nat) (h : Hp) (w : World) (hs : SH S b 0 0 h w) (H : Good h) (hp : phi h ≤ 1000000) :
    Calls Try.prog 22 #[.pointer (some ⟨b, 0, none⟩)] w (SeP S b 0 0 (settleH h) w) := by
  obtain ⟨vc, vn, c0, c2, _, _, hf, hbl, hSb, _, _⟩ := hs.open
  obtain ⟨l1, k1, hz⟩ := lock_hp hs
  have hR := settle_hp S b 1 1 h _ l1 H hp
  generalize settleH h = r at *
  have hY : Hid (∀ F T v w2 w3, SeI S b 1 1 ((w.setCell ⟨b, 0, none⟩ (.int .i32 1)).setCell ⟨b, 2, none⟩ (.int .i32 1)) F T r.1 v r.2 w2 → SH F b 0 0 r.1 w3 → Kp F w2 w3 → SeP S b 0 0 r w (.returned v) w3) := by
    intro F T v w2 w3 q r1 r2
    refine ⟨v, F, T, rfl, r1, q.row.move fun g a c _ => ⟨r2.block g c fun e => q.apart g e a, a⟩, q.apart, fun g a => ?_, fun g a => ?_, ?_⟩
    · exact ⟨by have := (q.foot g a).1; rwa [hz] at this, Nat.lt_of_lt_of_le (q.foot g a).2 r2.size⟩
    · exact ⟨by have := (q.new g a).1; rwa [hz] at this, Nat.lt_of_lt_of_le (q.new g a).2 r2.size⟩
    · exact (k1.trans q.kept fun _ _ a => a).trans r2 fun g a e => (by have := (q.foot g e).1; rw [hz] at this; exact this.resolve_right (by omega))
  clear hs k1
  go_enter_defers Try.func22, Try.ntmps22
  go_wp2_with (first | (go_at_call 48; refine (lock_any b _ c0 c2 hf).mono ?_; rintro e w' ⟨rfl, rfl⟩))
  refine hR.mono ?_
  rintro e w2 ⟨v, F, T, rfl, q⟩
  have q1 := q.heap
  go_wp2
  refine leaves_cons (f := 49) (args := #[.pointer (some ⟨b, 0, none⟩)]) (by simp) (by simp [go_sem]) ?_
  refine (unlock_hp q1 _).mono ?_
  rintro e u' w3 ⟨rfl, rfl, r1, r2⟩
  exact ⟨v, (by simp [results, Try.results22, go_sem]), hY.out F T v w2 w3 q r1 r2⟩
def countR (h : Hp) (i : Int) : Int × Int := if eAny h.cs i ≠ 0 then (0, eAny h.cs i) else (cn h.cs i.toNat, 0)
theorem eAny_cases (cs : List Cl) (n : Int) : (eAny cs n = 0 ∧ ∃ k : Nat, n = (k : Int) ∧ k < cs.length) ∨ eAny cs n = 4 := by
  unfold eAny
  by_cases h : n < 0 ∨ (cs.length : Int) ≤ n
  · rw [if_pos h]
    exact Or.inr rfl
  · rw [if_neg h]
    exact Or.inl ⟨rfl, toNat_of (fun e => h (.inl e)) (fun e => h (.inr e))⟩
set_option maxRecDepth 100000 in
set_option maxHeartbeats 1600000 in
theorem Count_hp (S : Nat → Prop) (b : Nat) (h : Hp) (i : Int) (w : World) (hs : SH S b 0 0 h w) :
    Calls Try.prog 24 #[.pointer (some ⟨b, 0, none⟩), .int .i64 i] w (ToP S b h (.tuple #[.int .i64 (countR h i).1, .int .i64 (countR h i).2]) w) := by
  obtain ⟨vc, vn, c0, c2, _, _, hf, hbl, hSb, _, _⟩ := hs.open
  obtain ⟨l1, k1, hz⟩ := lock_hp hs
  have hX : Hid (∀ w3 v, SH S b 0 0 h w3 → Kp S ((w.setCell ⟨b, 0, none⟩ (.int .i32 1)).setCell ⟨b, 2, none⟩ (.int .i32 1)) w3 → ToP S b h v w (.returned v) w3) := fun w3 v r1 r2 => ⟨rfl, r1.wide fun g a _ => Or.inl a, k1.trans r2 fun _ _ a => a⟩
  have hE := check_any S b 1 1 h.cs (cn h.cs) h.ns i _ l1
  rcases eAny_cases h.cs i with ⟨h0, k, rfl, hk⟩ | h0
  · have hm : countR h k = (cn h.cs k, 0) := if_neg (fun e => e h0)
    rw [hm]
    rw [h0] at hE
    obtain ⟨g, cap, h4, hS, hgb, hlt, hcell, hfz⟩ := l1.cell hk
    have hct : ((w.setCell ⟨b, 0, none⟩ (.int .i32 1)).setCell ⟨b, 2, none⟩ (.int .i32 1)).cell? ⟨g, k * 22 + 21, none⟩ = some (.int .i64 (cn h.cs k)) := hcell k 21 hk (by decide)
    clear hm hs k1 h0 hcell
    generalize cn h.cs k = q at *
    go_enter_defers Try.func24, Try.ntmps24
    go_wp2_with (first | (go_at_call 48; refine (lock_any b _ c0 c2 hf).mono ?_; rintro e w' ⟨rfl, rfl⟩) | (go_at_call 58; refine (hE).mono ?_; rintro e w' ⟨rfl, rfl⟩))
    refine leaves_cons (f := 49) (args := #[.pointer (some ⟨b, 0, none⟩)]) (by simp) (by simp [go_sem]) ?_
    refine (unlock_hp l1 _).mono ?_
    rintro e u' w3 ⟨rfl, rfl, r1, r2⟩
    exact ⟨_, results_tmp2 rfl _ _ _, hX.out w3 _ r1 r2⟩
  · have hm : countR h i = (0, 4) := by
      unfold countR
      rw [h0]
      rfl
    rw [hm]
    rw [h0] at hE
    clear hm hs k1 h0
    go_enter_defers Try.func24, Try.ntmps24
    go_wp2_with (first | (go_at_call 48; refine (lock_any b _ c0 c2 hf).mono ?_; rintro e w' ⟨rfl, rfl⟩) | (go_at_call 58; refine (hE).mono ?_; rintro e w' ⟨rfl, rfl⟩))
    refine leaves_cons (f := 49) (args := #[.pointer (some ⟨b, 0, none⟩)]) (by simp) (by simp [go_sem]) ?_
    refine (unlock_hp l1 _).mono ?_
    rintro e u' w3 ⟨rfl, rfl, r1, r2⟩
    exact ⟨_, results_tmp2 rfl _ _ _, hX.out w3 _ r1 r2⟩

end Go.Proofs.Ytpedaompcjaahaa
