/-
  CharsEscapes: the law's walk. Conditions: the table of math/bits as it is laid; the variable strconv.ErrSyntax holds an error.
-/
import Derived.Test.YtegckpkancbnmaaDoorEx
import Derived.Test.YtegckpkancbnmaaDoorKn
namespace Go.Proofs.YtegckpkancbnmaaDoor
open Go.RowKit

def TxB (x : ByteArray) (v : Int) (w : World) (e : Ending) (w' : World) : Prop := e = .returned (.tuple #[.string x, .int .i64 v]) ∧ Below w.heap.size w w'
theorem bne_refl_str (x : ByteArray) : (x.toList != x.toList) = false := by simp
set_option maxRecDepth 100000 in
set_option maxHeartbeats 2000000 in
theorem esc_go (s A C K : ByteArray) (ea ec ek : Int) (w : World) (hz : ¬ 20000 < s.size)
    (h1 : ∀ w', Below w.heap.size w w' → Calls Tryd.prog 9 #[.string s] w' (TxB A ea w'))
    (h2 : ∀ w', Below w.heap.size w w' → Calls Tryd.prog 10 #[.string s] w' (TxB A ea w'))
    (h3 : ∀ w', Below w.heap.size w w' → Calls Tryd.prog 11 #[.string s] w' (TxB C ec w'))
    (h4 : ∀ w', Below w.heap.size w w' → Calls Tryd.prog 12 #[.string s] w' (TxB C ec w'))
    (h5 : ∀ w', Below w.heap.size w w' → Calls Tryd.prog 11 #[.string A] w' (TxB K ek w'))
    (hc : ea ≠ 0 ∨ (ea = 0 ∧ ek = 0 ∧ K = s)) : Calls Tryd.prog 3 #[.string s] w (KnownPost w) := by
  have H1 := Lib.hid h1
  have H2 := Lib.hid h2
  have H3 := Lib.hid h3
  have H4 := Lib.hid h4
  have H5 := Lib.hid h5
  have HKN := Lib.hid known_any
  have HB0 := Lib.hid (Below.refl w.heap.size w)
  have hz' : (s.size : Int) ≤ 20000 := by omega
  clear h1 h2 h3 h4 h5 hz
  rcases hc with hc | ⟨rfl, rfl, rfl⟩
  · have g1 : (ea != 0) = true := by rw [bne_iff_ne]; exact hc
    clear hc
    go_enter Tryd.func3, Tryd.ntmps3
    go_wp2_with fail
    refine (H1.out _ HB0.out).mono ?_
    rintro e w1 ⟨rfl, hb⟩
    have HB1 : Hid (Below w.heap.size w w1) := HB0.out.trans (hb.mono HB0.out.size)
    clear hb
    go_wp2_with fail
    refine (H2.out _ HB1.out).mono ?_
    rintro e w2 ⟨rfl, hb⟩
    have HB2 : Hid (Below w.heap.size w w2) := HB1.out.trans (hb.mono HB1.out.size)
    clear hb
    go_wp2_with fail
    refine (H3.out _ HB2.out).mono ?_
    rintro e w3 ⟨rfl, hb⟩
    have HB3 : Hid (Below w.heap.size w w3) := HB2.out.trans (hb.mono HB2.out.size)
    clear hb
    go_wp2_with fail
    refine (H4.out _ HB3.out).mono ?_
    rintro e w4 ⟨rfl, hb⟩
    have HB4 : Hid (Below w.heap.size w w4) := HB3.out.trans (hb.mono HB3.out.size)
    clear hb
    go_wp2_with fail
    refine (H5.out _ HB4.out).mono ?_
    rintro e w5 ⟨rfl, hb⟩
    have HB5 : Hid (Below w.heap.size w w5) := HB4.out.trans (hb.mono HB4.out.size)
    clear hb
    go_wp2_with fail
    refine (HKN.out _).mono ?_
    rintro e w6 ⟨rfl, hb⟩
    have HB6 : Hid (Below w.heap.size w w6) := HB5.out.trans (hb.mono HB5.out.size)
    clear hb
    go_wp2
    go_ret
    exact ⟨rfl, HB6.out⟩
  · go_enter Tryd.func3, Tryd.ntmps3
    go_wp2_with fail
    refine (H1.out _ HB0.out).mono ?_
    rintro e w1 ⟨rfl, hb⟩
    have HB1 : Hid (Below w.heap.size w w1) := HB0.out.trans (hb.mono HB0.out.size)
    clear hb
    go_wp2_with fail
    refine (H2.out _ HB1.out).mono ?_
    rintro e w2 ⟨rfl, hb⟩
    have HB2 : Hid (Below w.heap.size w w2) := HB1.out.trans (hb.mono HB1.out.size)
    clear hb
    go_wp2_with fail
    refine (H3.out _ HB2.out).mono ?_
    rintro e w3 ⟨rfl, hb⟩
    have HB3 : Hid (Below w.heap.size w w3) := HB2.out.trans (hb.mono HB2.out.size)
    clear hb
    go_wp2_with fail
    refine (H4.out _ HB3.out).mono ?_
    rintro e w4 ⟨rfl, hb⟩
    have HB4 : Hid (Below w.heap.size w w4) := HB3.out.trans (hb.mono HB3.out.size)
    clear hb
    go_wp2_with fail
    refine (H5.out _ HB4.out).mono ?_
    rintro e w5 ⟨rfl, hb⟩
    have HB5 : Hid (Below w.heap.size w w5) := HB4.out.trans (hb.mono HB4.out.size)
    clear hb
    go_wp2_with fail
    refine (HKN.out _).mono ?_
    rintro e w6 ⟨rfl, hb⟩
    have HB6 : Hid (Below w.heap.size w w6) := HB5.out.trans (hb.mono HB5.out.size)
    clear hb
    go_wp2
    go_ret
    exact ⟨rfl, HB6.out⟩

theorem unesc_nil (w : World) (hE : ErrAt w) : Calls Tryd.prog 11 #[.string (bs [])] w (TxB (bs (unL [])) (unE []) w) := by
  have := Unescape_ok (bs []) [] (fun c h => by cases h) (bs_list _) (by rw [bs_size]; decide) w hE
  rw [bs_list] at this
  exact this

theorem charsEscapes_walk (s : ByteArray) (_hs0 : s.size ≤ maxLen) (w : World) (hD : Dtab w) (hE : ErrAt w) : Calls Tryd.prog 3 #[.string s] w (KnownPost w) := by
  clear _hs0
  by_cases hz : 20000 < s.size
  · have HKN := Lib.hid known_any
    clear hD hE
    go_enter Tryd.func3, Tryd.ntmps3
    go_wp2_with fail
    refine (HKN.out _).mono ?_
    rintro e w3 ⟨rfl, hb3⟩
    have HB3 := Lib.hid hb3
    clear hb3
    go_wp2
    go_ret
    exact ⟨rfl, HB3.out⟩
  · rcases ckE_cases s with ⟨hck, hs4, L, hC, hl⟩ | ⟨hck, hx⟩
    · by_cases hbig : 4096 < (ens (L.flatMap esC)).length
      · have e1 : frmL esC L = [] := by unfold frmL szL; rw [if_pos hbig]
        have e2 : frmE esC L = 3 := by unfold frmE szE; rw [if_pos hbig]
        refine esc_go s (bs []) (bs (unL s.data.toList)) (bs (unL [])) 3 (unE s.data.toList) (unE []) w hz ?_ ?_ ?_ ?_ ?_ (.inl (by decide))
        · intro w' hb
          have := Escape_ok s L hC hl hs4 w' (hD.later hb)
          rwa [e1, e2] at this
        · intro w' hb
          have := rEscape_ok s L hC hl hs4 w'
          rwa [e1, e2] at this
        · exact fun w' hb => Unescape_ok s L hC hl hs4 w' (hE.later hb)
        · exact fun w' hb => rUnescape_ok s L hC hl hs4 w'
        · exact fun w' hb => unesc_nil w' (hE.later hb)
      · have e1 : frmL esC L = ens (L.flatMap esC) := by unfold frmL szL; rw [if_neg hbig]
        have e2 : frmE esC L = 0 := by unfold frmE szE; rw [if_neg hbig]
        have hu := une_of L hC
        have hsz : ¬ 4096 < (ens L).length := by rw [← hl, ← size_list]; omega
        have f1 : unL (ens (L.flatMap esC)) = ens L := by unfold unL szL; rw [hu]; show (if _ then _ else _) = _; rw [if_neg hsz]
        have f2 : unE (ens (L.flatMap esC)) = 0 := by unfold unE szE; rw [hu]; show (if _ then _ else _) = _; rw [if_neg hsz]
        have hs : s = bs (ens L) := by rw [← hl, bs_of]
        have hC2 : allC (L.flatMap esC) := flat_allC (fun c h => esC_allC (by have := isC_iff.1 h; omega)) hC
        refine esc_go s (bs (ens (L.flatMap esC))) (bs (unL s.data.toList)) s 0 (unE s.data.toList) 0 w hz ?_ ?_ ?_ ?_ ?_ (.inr ⟨rfl, rfl, rfl⟩)
        · intro w' hb
          have := Escape_ok s L hC hl hs4 w' (hD.later hb)
          rwa [e1, e2] at this
        · intro w' hb
          have := rEscape_ok s L hC hl hs4 w'
          rwa [e1, e2] at this
        · exact fun w' hb => Unescape_ok s L hC hl hs4 w' (hE.later hb)
        · exact fun w' hb => rUnescape_ok s L hC hl hs4 w'
        · intro w' hb
          have := Unescape_ok (bs (ens (L.flatMap esC))) (L.flatMap esC) hC2 (bs_list _) (by rw [bs_size]; omega) w' (hE.later hb)
          rw [bs_list, f1, f2] at this
          have h6 : Calls Tryd.prog 11 #[.string (bs (ens (L.flatMap esC)))] w' (TxB (bs (ens L)) 0 w') := this
          rwa [← hs] at h6
    · refine esc_go s (bs []) (bs []) (bs (unL [])) (ckE s) (ckE s) (unE []) w hz ?_ ?_ ?_ ?_ ?_ (.inl hck)
      · exact fun w' hb => Escape_bad s hck w'
      · exact fun w' hb => rEscape_bad s hck w'
      · exact fun w' hb => Unescape_bad s hck w'
      · exact fun w' hb => rUnescape_bad s hck w'
      · exact fun w' hb => unesc_nil w' (hE.later hb)

end Go.Proofs.YtegckpkancbnmaaDoor
