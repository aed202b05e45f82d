/-
  Texts as slices of runes and back ([]rune(s), string(l)); parts of slices that read as integers. Conditions: texts of at most 4096 bytes.
-/
import Derived.Test.YtegckpkancbnmaaDoorFd
import Derived.Laws.Cover4
namespace Go.Proofs.YtegckpkancbnmaaDoor
open Go.RowKit

theorem runesFrom_eq (s : ByteArray) (L : List Nat) (hC : allC L) (hl : s.data.toList = ens L) : ∀ (n k : Nat) (acc : Array Value), k + n = L.length → ∀ bound, n ≤ bound →
    Conv.runesFrom s bound (ens (L.take k)).length acc = acc ++ ((up (L.drop k)).map (Value.int .i32)).toArray := by
  have hP : Parts s.data.toList L [] := ⟨hC, by rw [hl, List.append_nil], .inl rfl⟩
  intro n
  induction n with
  | zero =>
    intro k acc hk bound _
    have hz : ¬ (ens (L.take k)).length < s.size := by
      rw [ens_take_all L k (by omega), size_list, hl]
      omega
    rw [List.drop_eq_nil_of_le (by omega)]
    cases bound with
    | zero => simp [Conv.runesFrom, up]
    | succ b => simp [Conv.runesFrom, hz, up]
  | succ n ih =>
    intro k acc hk bound hb
    obtain ⟨b, rfl⟩ : ∃ b, bound = b + 1 := ⟨bound - 1, by omega⟩
    have hlt : k < L.length := by omega
    rw [Conv.runesFrom, if_pos (take_size hP k hlt), dec_at hP k hlt]
    dsimp only
    rw [← ens_step L k hlt, ih (k + 1) _ (by omega) b (by omega), List.drop_eq_getElem_cons hlt, show up (L[k] :: L.drop (k + 1)) = (L[k] : Int) :: up (L.drop (k + 1)) from rfl, List.map_cons]
    generalize (up (L.drop (k + 1))).map (Value.int .i32) = M
    simp

theorem runes_all (s : ByteArray) (L : List Nat) (hC : allC L) (hl : s.data.toList = ens L) : Conv.runesFrom s s.size 0 #[] = ((up L).map (Value.int .i32)).toArray := by
  have h1 := (ens_length_le L).1
  have := runesFrom_eq s L hC hl L.length 0 #[] (by omega) s.size (by rw [size_list, hl]; exact h1)
  simpa [ens] using this

/-- '[]rune(s)': a row of the characters. -/
theorem runes_made (s : ByteArray) (L : List Nat) (hC : allC L) (hl : s.data.toList = ens L) (hs : s.size ≤ 4096) (w : World) :
    ∃ cap w', (convert 9 72 (.string s)).run Tryd.prog w = .ok (.slice (some ⟨w.heap.size, 0, none⟩) L.length cap) w' ∧ L.length ≤ cap ∧ Below w.heap.size w w' ∧ w'.heap.size = w.heap.size + 1 ∧
      (∀ j (h : j < L.length), w'.cell? ⟨w.heap.size, j, none⟩ = some (.int .i32 (L[j] : Nat))) ∧ (∀ j, w'.frozen? ⟨w.heap.size, j, none⟩ = false) := by
  have hra := runes_all s L hC hl
  have hsz : (Conv.runesFrom s s.size 0 #[]).size = L.length := by rw [hra]; simp [up_length]
  have hLs : L.length ≤ 4096 := by
    have := (ens_length_le L).1
    rw [← hl, ← size_list] at this
    omega
  have hr := run_runes_of_string w 9 72 21 s Tryd.underlying9 Tryd.underlying72 Tryd.underlying21 (by rw [hsz]; omega)
  rw [hsz] at hr
  have hge := grownCap_ge w L.length 0 21
  refine ⟨_, _, hr, hge, (((Below.refl _ _).drew).alloc (Nat.le_refl _) _), by simp, ?_, ?_⟩
  · intro j h
    rw [show w.heap.size = w.drew.heap.size from rfl, World.cell?_alloc_new, hra]
    rw [Array.getElem?_append_left (by simpa [up_length] using h)]
    simp [up, h]
  · intro j
    rw [show w.heap.size = w.drew.heap.size from rfl]
    have := World.frozen?_alloc_mark w.drew (Conv.runesFrom s s.size 0 #[] ++ Array.replicate (grownCap w L.length 0 21 - L.length) (.int .i32 0)) 21 0 0 j
    simpa using this

theorem runesBytes_up (L : List Nat) (hC : allC L) : runesBytes (up L) = bs (ens L) := by
  unfold runesBytes
  suffices h : ∀ (L : List Nat), allC L → ∀ b : List UInt8, (up L).foldl (fun r n => r ++ Utf8.encode n) (bs b) = bs (b ++ ens L) by
    have := h L hC []
    rw [List.nil_append] at this
    rw [show ByteArray.empty = bs [] from rfl]
    exact this
  intro L
  induction L with
  | nil => intro _ b; simp [up, ens]
  | cons c L ih =>
    intro hC b
    have hc := hC c (by simp)
    have : up (c :: L) = (c : Int) :: up L := rfl
    rw [this, List.foldl_cons, encode_en hc]
    rw [show bs b ++ (⟨(en c).toArray⟩ : ByteArray) = bs (b ++ en c) from bs_append b (en c)]
    rw [ih (fun d hd => hC d (by simp [hd])), ens, List.append_assoc]

/-- 'string(l)' of what reads as characters. -/
theorem runes_back (L : List Nat) (hC : allC L) (H : Nat) (v : Value) (w : World) (hr : Rd .i32 H v (up L) w) : (convert 72 9 v).run Tryd.prog w = .ok (.string (bs (ens L))) w := by
  obtain ⟨ao, cv, rfl, hle, hc⟩ := hr
  have hc' := fun hp : 0 < L.length => hc (by rwa [up_length])
  rw [up_length] at hle ⊢
  by_cases hp : 0 < L.length
  · obtain ⟨b, o, rfl, _, hcell⟩ := hc' hp
    rw [run_convert_runes w 72 9 21 ⟨b, o, none⟩ L.length cv (up L) (by rw [up_length]; omega) Tryd.underlying72 Tryd.underlying21 Tryd.underlying9]
    · rw [List.take_of_length_le (by rw [up_length]; omega), runesBytes_up L hC]
    · intro j hj
      rw [up_length] at hj
      have h2 := hcell j (by rwa [up_length])
      rw [show ((⟨b, o, none⟩ : Addr).add j) = ⟨b, o + j, none⟩ by cases j <;> simp [Addr.add], h2]
      simp [List.getD, hj, up]
  · have h0 : L.length = 0 := by omega
    have hL : L = [] := List.eq_nil_of_length_eq_zero h0
    subst hL
    cases ao with
    | none =>
      rw [run_convert_runes_nil w 72 9 21 _ _ Tryd.underlying72 Tryd.underlying21 Tryd.underlying9]
      rfl
    | some a =>
      rw [List.length_nil, run_convert_runes w 72 9 21 a 0 cv [] (by simp) Tryd.underlying72 Tryd.underlying21 Tryd.underlying9 (by intro j hj; simp at hj)]
      rfl

theorem Rd.drop {k : IntKind} {H n c : Nat} {ao : Option Addr} {L : List Int} {w : World} (h : Rd k H (.slice ao n c) L w) (j : Nat) (hj : j ≤ L.length) :
    Rd k H (.slice (if c = j then ao else ao.map (fun a => a.add (j * 1))) (n - j) (c - j)) (L.drop j) w := by
  obtain ⟨ao2, cv, h1, h2, h3⟩ := h
  injection h1 with h1 h4 h5
  subst h1 h4 h5
  refine ⟨_, _, by rw [List.length_drop], by rw [List.length_drop]; omega, fun hp => ?_⟩
  rw [List.length_drop] at hp
  obtain ⟨b, o, rfl, hb, hc⟩ := h3 (by omega)
  refine ⟨b, o + j, ?_, hb, fun i hi => ?_⟩
  · rw [if_neg (by omega)]
    simp [Addr.add]
  · rw [List.length_drop] at hi
    have := hc (j + i) (by omega)
    rw [List.getElem_drop, Nat.add_assoc]
    exact this
theorem Rd.take {k : IntKind} {H n c : Nat} {ao : Option Addr} {L : List Int} {w : World} (h : Rd k H (.slice ao n c) L w) (m : Nat) (hm : m ≤ L.length) :
    Rd k H (.slice ao m c) (L.take m) w := by
  obtain ⟨ao2, cv, h1, h2, h3⟩ := h
  injection h1 with h1 h4 h5
  subst h1 h4 h5
  refine ⟨_, _, by rw [List.length_take, Nat.min_eq_left hm], by rw [List.length_take]; omega, fun hp => ?_⟩
  rw [List.length_take] at hp
  obtain ⟨b, o, rfl, hb, hc⟩ := h3 (by omega)
  refine ⟨b, o, rfl, hb, fun i hi => ?_⟩
  rw [List.length_take] at hi
  rw [List.getElem_take]
  exact hc i (by omega)
theorem up_drop (L : List Nat) (j : Nat) : up (L.drop j) = (up L).drop j := by simp [up, List.map_drop]
theorem up_take (L : List Nat) (j : Nat) : up (L.take j) = (up L).take j := by simp [up, List.map_take]

end Go.Proofs.YtegckpkancbnmaaDoor
