/-
  empty of the document's heap. Conditions: a heap's size (phi) below 2^20.
-/
import Derived.Test.YtpedaompcjaahaaRd
namespace Go.Proofs.Ytpedaompcjaahaa
open Go.RowKit

theorem RI.drew {S : Nat → Prop} {r : Nat} {cs : List Cl} {ns : List Nat} {vc vn : Value} {fv : Nat → Value} {w : World} (h : RI S r cs ns vc vn fv w) : RI S r cs ns vc vn fv w.drew := h.move fun _ a _ => ⟨rfl, a⟩
theorem Kp.drew {S : Nat → Prop} {w : World} : Kp S w w.drew := ⟨rfl, rfl, rfl, Nat.le_refl _, fun _ _ _ => rfl⟩
set_option maxRecDepth 100000 in
set_option maxHeartbeats 4000000 in
theorem rEmpty_hp (S : Nat → Prop) (r : Nat) (h : Hp) (i k : Nat) (w : World) (hs : RH S r h w) (H : Good h) (hi : i < h.cs.length) (hk : k < (cl h.cs i).fs.length) (hp : phi h ≤ 1000000) :
    Calls Try.prog 74 #[.pointer (some ⟨r, 0, none⟩), .int .i64 (i : Int), .int .i64 (k : Int)] w (RoP S r (emptyF h i k) (.tuple #[]) w) := by
  obtain ⟨vc, vn, fv, hI⟩ := id hs
  obtain ⟨g, cap, rfl, hS, hgr, hgl, hcell, hfz⟩ := hI.cell hi
  have c0 := hI.open.1
  have hrl := hI.open.2.2.2.1
  have hfk : w.cell? ⟨g, i * 5, none⟩ = some (fv i) := hcell i 0 hi (by decide)
  obtain ⟨ao, capf, hfv, hff⟩ := hI.field hi
  obtain ⟨gf, rfl, hSf, hgfr, hgfl, hown, hfc, hffz, _⟩ := hff (by omega)
  rw [hfv] at hfk
  obtain ⟨f0, f1, f2⟩ := hfc k hk
  have hgg : g ≠ gf := hI.fieldNe (g := g) hi rfl hown
  have hb := cnt_small hp (fd h.cs i k).2
  have hnl := hb.2.2.2
  have a0 := hI.storeF hi hk hown (0, 0)
  have A0 : RS S r (setF h.cs i k (0, 0)) h.ns (((w.setCell ⟨gf, k * 3, none⟩ (.int .i64 0)).setCell ⟨gf, k * 3 + 1, none⟩ (.bool false)).setCell ⟨gf, k * 3 + 2, none⟩ (.bool false)) := ⟨_, _, _, a0⟩
  have A1 : ∀ o, RS S r (setF h.cs i k (0, 0)) h.ns ((((w.setCell ⟨gf, k * 3, none⟩ (.int .i64 0)).setCell ⟨gf, k * 3 + 1, none⟩ (.bool false)).setCell ⟨gf, k * 3 + 2, none⟩ (.bool false)).alloc o) := fun o => A0.move fun g a c => ⟨Below.heap_alloc _ _ g c, a⟩
  have k1 : ∀ o, Kp S w ((((w.setCell ⟨gf, k * 3, none⟩ (.int .i64 0)).setCell ⟨gf, k * 3 + 1, none⟩ (.bool false)).setCell ⟨gf, k * 3 + 2, none⟩ (.bool false)).alloc o) := fun o => ((((Kp.refl S w).set (p := ⟨gf, k * 3, none⟩) (Or.inl hSf) _).set (p := ⟨gf, k * 3 + 1, none⟩) (Or.inl hSf) _).set (p := ⟨gf, k * 3 + 2, none⟩) (Or.inl hSf) _).alloc o
  have hG : Good ⟨setF h.cs i k (0, 0), h.ns⟩ := Good.zero H hi hk
  have hF : Hid (emptyF h i k = if (fd h.cs i k).1 = 1 ∧ cnt (setF h.cs i k (0, 0)) (fd h.cs i k).2 = 0 then ⟨setF h.cs i k (0, 0), h.ns ++ [(fd h.cs i k).2]⟩ else ⟨setF h.cs i k (0, 0), h.ns⟩) := rfl
  have hkd := H.kind i k
  have hld := H.lead i k
  have n1 : ¬ g = gf := hgg
  have n2 : ¬ gf = g := fun e => hgg e.symm
  have n3 : ¬ r = gf := fun e => hgfr e.symm
  have n4 : ¬ gf = r := hgfr
  have n5 : ¬ w.heap.size = gf := by omega
  have n6 : ¬ gf = w.heap.size := by omega
  have n7 : ¬ w.heap.size = r := by omega
  have n8 : ¬ r = w.heap.size := by omega
  have n9 : ¬ g = w.heap.size := by omega
  have n10 : ¬ w.heap.size = g := by omega
  by_cases h1 : (fd h.cs i k).1 = 1
  · have ht : (fd h.cs i k).2 < h.cs.length := hld (by omega)
    have hcle : cnt (setF h.cs i k (0, 0)) (fd h.cs i k).2 ≤ 1000000 := by
      have := cnt_setF h.cs i k (0, 0) hi hk (fd h.cs i k).2
      have h4 := cnt_le_phi h.cs h.ns (fd h.cs i k).2
      have h5 : phi ⟨h.cs, h.ns⟩ = phi h := rfl
      simp at this
      omega
    have hC := fun o => counted_any S r _ h.ns (fd h.cs i k).2 _ (A1 o) (by rw [setF_length]; exact ht) hG.kind (fun e => hG.ended _ e) hcle hG.few hG.wide
    rw [h1] at f1 f2
    have HA := Lib.hid A1
    have HK := Lib.hid k1
    have h1' := Lib.hid h1
    clear hG hcle hb hp hkd hld hI hs hcell hff hfc a0 A0 A1 k1 hfv h1
    generalize hq : cnt (setF h.cs i k (0, 0)) (fd h.cs i k).2 = q at *
    generalize (setF h.cs i k (0, 0)) = cs1 at *
    generalize (fd h.cs i k).2 = t at *
    generalize emptyF h i k = h2 at *
    generalize (cl h.cs i).fs.length = L at *
    replace hq := Lib.hid hq
    go_enter Try.func74, Try.ntmps74
    go_wp2_with fail
    refine (hC _).mono ?_
    rintro e w2 ⟨rfl, hb⟩
    obtain ⟨vc2, vn2, fv2, hI2⟩ := (HA.out _).low hb
    obtain ⟨d0, d1, dz, drl, _⟩ := hI2.open
    have HK2 : Hid (Kp S w w2) := (HK.out _).trans (Kp.below hb) fun _ _ a => a
    have hl0 : w2.cell? ⟨w.heap.size, 0, none⟩ = some (.int .i64 (t : Int)) := by
      rw [hb.cell (p := ⟨w.heap.size, 0, none⟩) (by simp [World.setCell])]
      have := heap_alloc_new (((w.setCell ⟨gf, k * 3, none⟩ (.int .i64 0)).setCell ⟨gf, k * 3 + 1, none⟩ (.bool false)).setCell ⟨gf, k * 3 + 2, none⟩ (.bool false)) (.cells #[.int .i64 (t : Int), .bool true, .bool false] 91)
      rw [World.size_setCell, World.size_setCell, World.size_setCell] at this
      exact (cell_of_row _ _ _ _ _ _ this).trans rfl
    by_cases hq0 : q = 0
    · obtain ⟨ao, m, c, w3, hr, y5, y5f, q1, q2⟩ := at_rnote hI2.drew t hnl w2.heap.size rfl
      have hX : Hid (RoP S r h2 (.tuple #[]) w (.returned (.tuple #[])) (w3.setCell ⟨r, 1, none⟩ (.slice ao m c))) := by
        rw [hF.out, if_pos ⟨h1'.out, hq0⟩]
        exact ⟨rfl, q1.wide fun g a _ => a.elim Or.inl fun a => Or.inr (Nat.le_trans HK2.out.size a), (HK2.out.trans Kp.drew fun _ _ a => a).trans q2 fun _ _ a => a⟩
      have hqb : ((q : Int) == 0) = true := by rw [hq0]; rfl
      clear q1 q2 hI2 hb hC hF hq0 d0 c0 hfk f0 f1 f2 hfz hffz HA HK HK2
      go_wp2
      go_region_law (refine step_append_is rfl (.tmp 47) (.tmp 50) 28 rfl vn2 (.slice (some ⟨w2.heap.size, 0, none⟩) 1 1) (.slice ao m c) w3 (by simp [Act.eval]) (by simp [Act.eval]) hr ?_)
      all_goals
        go_wp2
        go_end0
        exact hX.out
    · have hX : Hid (RoP S r h2 (.tuple #[]) w (.returned (.tuple #[])) w2) := by
        rw [hF.out, if_neg (fun e => hq0 e.2)]
        exact ⟨rfl, ((HA.out _).low hb).wide fun g a _ => Or.inl a, HK2.out⟩
      have hqb : ((q : Int) == 0) = false := by
        rw [beq_eq_false_iff_ne]
        omega
      clear hI2 hb hC hF hq0 d0 d1 c0 hfk f0 f1 f2 hfz hffz HA HK HK2
      go_wp2
      go_end0
      exact hX.out
  · have hX : Hid (∀ o, RoP S r (emptyF h i k) (.tuple #[]) w (.returned (.tuple #[])) ((((w.setCell ⟨gf, k * 3, none⟩ (.int .i64 0)).setCell ⟨gf, k * 3 + 1, none⟩ (.bool false)).setCell ⟨gf, k * 3 + 2, none⟩ (.bool false)).alloc o)) := by
      intro o
      rw [hF.out, if_neg (fun e => h1 e.1)]
      exact ⟨rfl, (A1 o).wide fun g a _ => Or.inl a, k1 o⟩
    by_cases q2 : (fd h.cs i k).1 = 2
    · rw [q2] at f1 f2
      clear hG hb hp hkd hld hI hs hcell hff hfc a0 A0 A1 k1 hfv h1 hF q2
      generalize (fd h.cs i k).2 = t at *
      generalize emptyF h i k = h2 at *
      generalize (cl h.cs i).fs.length = L at *
      go_enter Try.func74, Try.ntmps74
      go_wp2
      go_end0
      exact hX.out _
    · have q0 : (fd h.cs i k).1 = 0 := by omega
      rw [q0] at f1 f2
      clear hG hb hp hkd hld hI hs hcell hff hfc a0 A0 A1 k1 hfv h1 hF q2 q0
      generalize (fd h.cs i k).2 = t at *
      generalize emptyF h i k = h2 at *
      generalize (cl h.cs i).fs.length = L at *
      go_enter Try.func74, Try.ntmps74
      go_wp2
      go_end0
      exact hX.out _

end Go.Proofs.Ytpedaompcjaahaa
