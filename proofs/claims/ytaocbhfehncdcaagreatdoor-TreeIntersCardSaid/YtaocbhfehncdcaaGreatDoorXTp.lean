/-
  What the law knows: the tokens of its three texts. Conditions: the row of signs holds what the program's text lays.
-/
import Derived.Test.YtaocbhfehncdcaaGreatDoorXM14
namespace Go.Proofs.YtaocbhfehncdcaaGreatDoor
open Go.RowKit

theorem lt8 {P : Nat → Prop} (h0 : P 0) (h1 : P 1) (h2 : P 2) (h3 : P 3) (h4 : P 4) (h5 : P 5) (h6 : P 6) (h7 : P 7) : ∀ i, i < 8 → P i
  | 0, _ => h0
  | 1, _ => h1
  | 2, _ => h2
  | 3, _ => h3
  | 4, _ => h4
  | 5, _ => h5
  | 6, _ => h6
  | 7, _ => h7
  | i + 8, h => absurd h (by omega)
theorem lt9 {P : Nat → Prop} (h0 : P 0) (h1 : P 1) (h2 : P 2) (h3 : P 3) (h4 : P 4) (h5 : P 5) (h6 : P 6) (h7 : P 7) (h8 : P 8) : ∀ i, i < 9 → P i
  | 0, _ => h0
  | 1, _ => h1
  | 2, _ => h2
  | 3, _ => h3
  | 4, _ => h4
  | 5, _ => h5
  | 6, _ => h6
  | 7, _ => h7
  | 8, _ => h8
  | i + 9, h => absurd h (by omega)
/-- The text `$x->[1][2]`. -/
def pa : Plan where
  s := ⟨#[36, 120, 45, 62, 91, 49, 93, 91, 50, 93]⟩
  k := 8
  A := fun | 0 => 0 | 1 => 2 | 2 => 4 | 3 => 5 | 4 => 6 | 5 => 7 | 6 => 8 | 7 => 9 | _ => 10
  Z := fun | 0 => 2 | 1 => 4 | 2 => 5 | 3 => 6 | 4 => 7 | 5 => 8 | 6 => 9 | _ => 10
  T := fun | 0 => true | 1 => false | 2 => true | 3 => true | 4 => false | 5 => false | 6 => true | 7 => false | _ => false
  R := fun
    | 0 => ⟨[], 0, [], [], []⟩
    | 1 => ⟨([]) ++ tokC 2 0 [36, 120], 0 + 1, ([]) ++ [true], [], []⟩
    | 2 => ⟨(([]) ++ tokC 2 0 [36, 120]) ++ tokC 3 2 [45, 62], 0 + 1 + 1, (([]) ++ [true]) ++ [false], [], []⟩
    | 3 => ⟨((([]) ++ tokC 2 0 [36, 120]) ++ tokC 3 2 [45, 62]) ++ tokC 3 4 [91], 0 + 1 + 1 + 1, ((([]) ++ [true]) ++ [false]) ++ [true], [], []⟩
    | 4 => ⟨(((([]) ++ tokC 2 0 [36, 120]) ++ tokC 3 2 [45, 62]) ++ tokC 3 4 [91]) ++ tokC 1 5 [49], 0 + 1 + 1 + 1 + 1, (((([]) ++ [true]) ++ [false]) ++ [true]) ++ [true], [], []⟩
    | 5 => ⟨((((([]) ++ tokC 2 0 [36, 120]) ++ tokC 3 2 [45, 62]) ++ tokC 3 4 [91]) ++ tokC 1 5 [49]) ++ tokC 3 6 [93], 0 + 1 + 1 + 1 + 1 + 1, ((((([]) ++ [true]) ++ [false]) ++ [true]) ++ [true]) ++ [false], [], []⟩
    | 6 => ⟨(((((([]) ++ tokC 2 0 [36, 120]) ++ tokC 3 2 [45, 62]) ++ tokC 3 4 [91]) ++ tokC 1 5 [49]) ++ tokC 3 6 [93]) ++ tokC 3 7 [91], 0 + 1 + 1 + 1 + 1 + 1 + 1, (((((([]) ++ [true]) ++ [false]) ++ [true]) ++ [true]) ++ [false]) ++ [false], [], []⟩
    | 7 => ⟨((((((([]) ++ tokC 2 0 [36, 120]) ++ tokC 3 2 [45, 62]) ++ tokC 3 4 [91]) ++ tokC 1 5 [49]) ++ tokC 3 6 [93]) ++ tokC 3 7 [91]) ++ tokC 1 8 [50], 0 + 1 + 1 + 1 + 1 + 1 + 1 + 1, ((((((([]) ++ [true]) ++ [false]) ++ [true]) ++ [true]) ++ [false]) ++ [false]) ++ [true], [], []⟩
    | _ => ⟨(((((((([]) ++ tokC 2 0 [36, 120]) ++ tokC 3 2 [45, 62]) ++ tokC 3 4 [91]) ++ tokC 1 5 [49]) ++ tokC 3 6 [93]) ++ tokC 3 7 [91]) ++ tokC 1 8 [50]) ++ tokC 3 9 [93], 0 + 1 + 1 + 1 + 1 + 1 + 1 + 1 + 1, (((((((([]) ++ [true]) ++ [false]) ++ [true]) ++ [true]) ++ [false]) ++ [false]) ++ [true]) ++ [false], [], []⟩
  tok := fun | 0 => tokA 2 [36, 120] | 1 => tokA 3 [45, 62] | 2 => tokA 3 [91] | 3 => tokA 1 [49] | 4 => tokA 3 [93] | 5 => tokA 3 [91] | 6 => tokA 1 [50] | _ => tokA 3 [93]
theorem pa_s0 : pa.s[0]'(by decide) ∈ sgL := by decide
theorem pa_s2 : pa.s[4]'(by decide) ∉ sgL := by decide
theorem pa_s3 : pa.s[5]'(by decide) ∉ sgL := by decide
theorem pa_s6 : pa.s[8]'(by decide) ∉ sgL := by decide
set_option maxRecDepth 100000 in
set_option maxHeartbeats 8000000 in
theorem pa_ok : pa.Ok where
  small := by decide
  gap0 := by decide
  gaps := lt8 (by decide) (by decide) (by decide) (by decide) (by decide) (by decide) (by decide) (by decide)
  lt := lt8 (by decide) (by decide) (by decide) (by decide) (by decide) (by decide) (by decide) (by decide)
  fin := by decide
  ml := fun | 0 => rfl | 1 => rfl | 2 => rfl | 3 => rfl | 4 => rfl | 5 => rfl | 6 => rfl | 7 => rfl | _ + 8 => rfl
  read := lt8
    (fun W0 B e tk tm op M w h _ _ => read_term W0 B ⟨pa.s, 0, 0, e, true, tk, tm, op, M⟩ ⟨pa.s, 2, 0, e, true, tk, tm, op, M⟩ _ w h rfl 2 (bs [36, 120]) ⟨#[]⟩ ⟨#[]⟩ (h.ltSize.withA 2)
      (qn W0 B _ _ (by (try dsimp only); decide) (by (try dsimp only); decide) 0 (by (try dsimp only); decide)) (hn W0 B _ _ (by (try dsimp only); decide) (by (try dsimp only); decide) (by (try dsimp only); decide))
      (fun w' h' => termSign_word W0 B _ _ w' h' (by (try dsimp only); decide) (by (try dsimp only); decide) pa_s0 1 (by (try dsimp only); decide) (by (try dsimp only); decide) (by (try dsimp only); decide)))
    (fun W0 B e tk tm op M w h hg _ => read_sign W0 B ⟨pa.s, 2, 2, e, false, tk, tm, op, M⟩ _ w h (by (try dsimp only); decide) (by (try dsimp only); decide) rfl hg [45, 62] (by (try dsimp only); decide) (by (try dsimp only); decide) (by (try dsimp only); decide))
    (fun W0 B e tk tm op M w h hg hgW => read_sign_t W0 B ⟨pa.s, 4, 4, e, true, tk, tm, op, M⟩ _ w h (by (try dsimp only); decide) (by (try dsimp only); decide) rfl (qn W0 B _ _ (by (try dsimp only); decide) (by (try dsimp only); decide) 0 (by (try dsimp only); decide)) (hn W0 B _ _ (by (try dsimp only); decide) (by (try dsimp only); decide) (by (try dsimp only); decide)) (mn W0 B _ _ (by (try dsimp only); decide) (by (try dsimp only); decide) pa_s2) hg (by have := h.base; omega) [91] (by (try dsimp only); decide) (by (try dsimp only); decide) (by (try dsimp only); decide))
    (fun W0 B e tk tm op M w h _ _ => read_num_t W0 B ⟨pa.s, 5, 5, e, true, tk, tm, op, M⟩ _ w h (by (try dsimp only); decide) (by (try dsimp only); decide) rfl (qn W0 B _ _ (by (try dsimp only); decide) (by (try dsimp only); decide) 0 (by (try dsimp only); decide)) (hn W0 B _ _ (by (try dsimp only); decide) (by (try dsimp only); decide) (by (try dsimp only); decide)) (mn W0 B _ _ (by (try dsimp only); decide) (by (try dsimp only); decide) pa_s3) 1 (by (try dsimp only); decide) (by (try dsimp only); decide) (by (try dsimp only); decide))
    (fun W0 B e tk tm op M w h hg _ => read_sign W0 B ⟨pa.s, 6, 6, e, false, tk, tm, op, M⟩ _ w h (by (try dsimp only); decide) (by (try dsimp only); decide) rfl hg [93] (by (try dsimp only); decide) (by (try dsimp only); decide) (by (try dsimp only); decide))
    (fun W0 B e tk tm op M w h hg _ => read_sign W0 B ⟨pa.s, 7, 7, e, false, tk, tm, op, M⟩ _ w h (by (try dsimp only); decide) (by (try dsimp only); decide) rfl hg [91] (by (try dsimp only); decide) (by (try dsimp only); decide) (by (try dsimp only); decide))
    (fun W0 B e tk tm op M w h _ _ => read_num_t W0 B ⟨pa.s, 8, 8, e, true, tk, tm, op, M⟩ _ w h (by (try dsimp only); decide) (by (try dsimp only); decide) rfl (qn W0 B _ _ (by (try dsimp only); decide) (by (try dsimp only); decide) 0 (by (try dsimp only); decide)) (hn W0 B _ _ (by (try dsimp only); decide) (by (try dsimp only); decide) (by (try dsimp only); decide)) (mn W0 B _ _ (by (try dsimp only); decide) (by (try dsimp only); decide) pa_s6) 1 (by (try dsimp only); decide) (by (try dsimp only); decide) (by (try dsimp only); decide))
    (fun W0 B e tk tm op M w h hg _ => read_sign W0 B ⟨pa.s, 9, 9, e, false, tk, tm, op, M⟩ _ w h (by (try dsimp only); decide) (by (try dsimp only); decide) rfl hg [93] (by (try dsimp only); decide) (by (try dsimp only); decide) (by (try dsimp only); decide))
  add := lt8
    (fun W0 B e tk tm op M w h => add_tok W0 B _ _ w h 2 [36, 120] (by decide) (by decide) rfl)
    (fun W0 B e tk tm op M w h => add_sg W0 B _ _ w h [45, 62] (by decide) (by decide) (by decide) rfl)
    (fun W0 B e tk tm op M w h => add_sg W0 B _ _ w h [91] (by decide) (by decide) (by decide) rfl)
    (fun W0 B e tk tm op M w h => add_tok W0 B _ _ w h 1 [49] (by decide) (by decide) rfl)
    (fun W0 B e tk tm op M w h => add_sg W0 B _ _ w h [93] (by decide) (by decide) (by decide) rfl)
    (fun W0 B e tk tm op M w h => add_sg W0 B _ _ w h [91] (by decide) (by decide) (by decide) rfl)
    (fun W0 B e tk tm op M w h => add_tok W0 B _ _ w h 1 [50] (by decide) (by decide) rfl)
    (fun W0 B e tk tm op M w h => add_sg W0 B _ _ w h [93] (by decide) (by decide) (by decide) rfl)

/-- The text `my ($a, @b) = @_;`. -/
def pb : Plan where
  s := ⟨#[109, 121, 32, 40, 36, 97, 44, 32, 64, 98, 41, 32, 61, 32, 64, 95, 59]⟩
  k := 9
  A := fun | 0 => 0 | 1 => 3 | 2 => 4 | 3 => 6 | 4 => 8 | 5 => 10 | 6 => 12 | 7 => 14 | 8 => 16 | _ => 17
  Z := fun | 0 => 2 | 1 => 4 | 2 => 6 | 3 => 7 | 4 => 10 | 5 => 11 | 6 => 13 | 7 => 16 | _ => 17
  T := fun | 0 => true | 1 => true | 2 => true | 3 => false | 4 => true | 5 => false | 6 => false | 7 => true | 8 => false | _ => true
  R := fun
    | 0 => ⟨[], 0, [], [], []⟩
    | 1 => ⟨([]) ++ tokC 0 0 [109, 121], 0 + 1, ([]) ++ [true], [], []⟩
    | 2 => ⟨(([]) ++ tokC 0 0 [109, 121]) ++ tokC 3 3 [40], 0 + 1 + 1, (([]) ++ [true]) ++ [true], [], []⟩
    | 3 => ⟨((([]) ++ tokC 0 0 [109, 121]) ++ tokC 3 3 [40]) ++ tokC 2 4 [36, 97], 0 + 1 + 1 + 1, ((([]) ++ [true]) ++ [true]) ++ [true], [], []⟩
    | 4 => ⟨(((([]) ++ tokC 0 0 [109, 121]) ++ tokC 3 3 [40]) ++ tokC 2 4 [36, 97]) ++ tokC 3 6 [44], 0 + 1 + 1 + 1 + 1, (((([]) ++ [true]) ++ [true]) ++ [true]) ++ [false], [], []⟩
    | 5 => ⟨((((([]) ++ tokC 0 0 [109, 121]) ++ tokC 3 3 [40]) ++ tokC 2 4 [36, 97]) ++ tokC 3 6 [44]) ++ tokC 2 8 [64, 98], 0 + 1 + 1 + 1 + 1 + 1, ((((([]) ++ [true]) ++ [true]) ++ [true]) ++ [false]) ++ [true], [], []⟩
    | 6 => ⟨(((((([]) ++ tokC 0 0 [109, 121]) ++ tokC 3 3 [40]) ++ tokC 2 4 [36, 97]) ++ tokC 3 6 [44]) ++ tokC 2 8 [64, 98]) ++ tokC 3 10 [41], 0 + 1 + 1 + 1 + 1 + 1 + 1, (((((([]) ++ [true]) ++ [true]) ++ [true]) ++ [false]) ++ [true]) ++ [false], [], []⟩
    | 7 => ⟨((((((([]) ++ tokC 0 0 [109, 121]) ++ tokC 3 3 [40]) ++ tokC 2 4 [36, 97]) ++ tokC 3 6 [44]) ++ tokC 2 8 [64, 98]) ++ tokC 3 10 [41]) ++ tokC 3 12 [61], 0 + 1 + 1 + 1 + 1 + 1 + 1 + 1, ((((((([]) ++ [true]) ++ [true]) ++ [true]) ++ [false]) ++ [true]) ++ [false]) ++ [false], [], []⟩
    | 8 => ⟨(((((((([]) ++ tokC 0 0 [109, 121]) ++ tokC 3 3 [40]) ++ tokC 2 4 [36, 97]) ++ tokC 3 6 [44]) ++ tokC 2 8 [64, 98]) ++ tokC 3 10 [41]) ++ tokC 3 12 [61]) ++ tokC 2 14 [64, 95], 0 + 1 + 1 + 1 + 1 + 1 + 1 + 1 + 1, (((((((([]) ++ [true]) ++ [true]) ++ [true]) ++ [false]) ++ [true]) ++ [false]) ++ [false]) ++ [true], [], []⟩
    | _ => ⟨((((((((([]) ++ tokC 0 0 [109, 121]) ++ tokC 3 3 [40]) ++ tokC 2 4 [36, 97]) ++ tokC 3 6 [44]) ++ tokC 2 8 [64, 98]) ++ tokC 3 10 [41]) ++ tokC 3 12 [61]) ++ tokC 2 14 [64, 95]) ++ tokC 3 16 [59], 0 + 1 + 1 + 1 + 1 + 1 + 1 + 1 + 1 + 1, ((((((((([]) ++ [true]) ++ [true]) ++ [true]) ++ [false]) ++ [true]) ++ [false]) ++ [false]) ++ [true]) ++ [false], [], []⟩
  tok := fun | 0 => tokA 0 [109, 121] | 1 => tokA 3 [40] | 2 => tokA 2 [36, 97] | 3 => tokA 3 [44] | 4 => tokA 2 [64, 98] | 5 => tokA 3 [41] | 6 => tokA 3 [61] | 7 => tokA 2 [64, 95] | _ => tokA 3 [59]
theorem pb_s0 : pb.s[0]'(by decide) ∉ sgL := by decide
theorem pb_s1 : pb.s[3]'(by decide) ∉ sgL := by decide
theorem pb_s2 : pb.s[4]'(by decide) ∈ sgL := by decide
theorem pb_s4 : pb.s[8]'(by decide) ∈ sgL := by decide
theorem pb_s7 : pb.s[14]'(by decide) ∈ sgL := by decide
set_option maxRecDepth 100000 in
set_option maxHeartbeats 8000000 in
theorem pb_ok : pb.Ok where
  small := by decide
  gap0 := by decide
  gaps := lt9 (by decide) (by decide) (by decide) (by decide) (by decide) (by decide) (by decide) (by decide) (by decide)
  lt := lt9 (by decide) (by decide) (by decide) (by decide) (by decide) (by decide) (by decide) (by decide) (by decide)
  fin := by decide
  ml := fun | 0 => rfl | 1 => rfl | 2 => rfl | 3 => rfl | 4 => rfl | 5 => rfl | 6 => rfl | 7 => rfl | 8 => rfl | _ + 9 => rfl
  read := lt9
    (fun W0 B e tk tm op M w h _ _ => read_word_t W0 B ⟨pb.s, 0, 0, e, true, tk, tm, op, M⟩ _ w h (by (try dsimp only); decide) (by (try dsimp only); decide) rfl (qn W0 B _ _ (by (try dsimp only); decide) (by (try dsimp only); decide) 0 (by (try dsimp only); decide)) (hn W0 B _ _ (by (try dsimp only); decide) (by (try dsimp only); decide) (by (try dsimp only); decide)) (mn W0 B _ _ (by (try dsimp only); decide) (by (try dsimp only); decide) pb_s0) 2 (by (try dsimp only); decide) (by (try dsimp only); decide) (by (try dsimp only); decide))
    (fun W0 B e tk tm op M w h hg hgW => read_sign_t W0 B ⟨pb.s, 3, 3, e, true, tk, tm, op, M⟩ _ w h (by (try dsimp only); decide) (by (try dsimp only); decide) rfl (qn W0 B _ _ (by (try dsimp only); decide) (by (try dsimp only); decide) 0 (by (try dsimp only); decide)) (hn W0 B _ _ (by (try dsimp only); decide) (by (try dsimp only); decide) (by (try dsimp only); decide)) (mn W0 B _ _ (by (try dsimp only); decide) (by (try dsimp only); decide) pb_s1) hg (by have := h.base; omega) [40] (by (try dsimp only); decide) (by (try dsimp only); decide) (by (try dsimp only); decide))
    (fun W0 B e tk tm op M w h _ _ => read_term W0 B ⟨pb.s, 4, 4, e, true, tk, tm, op, M⟩ ⟨pb.s, 6, 4, e, true, tk, tm, op, M⟩ _ w h rfl 2 (bs [36, 97]) ⟨#[]⟩ ⟨#[]⟩ (h.ltSize.withA 6)
      (qn W0 B _ _ (by (try dsimp only); decide) (by (try dsimp only); decide) 0 (by (try dsimp only); decide)) (hn W0 B _ _ (by (try dsimp only); decide) (by (try dsimp only); decide) (by (try dsimp only); decide))
      (fun w' h' => termSign_word W0 B _ _ w' h' (by (try dsimp only); decide) (by (try dsimp only); decide) pb_s2 1 (by (try dsimp only); decide) (by (try dsimp only); decide) (by (try dsimp only); decide)))
    (fun W0 B e tk tm op M w h hg _ => read_sign W0 B ⟨pb.s, 6, 6, e, false, tk, tm, op, M⟩ _ w h (by (try dsimp only); decide) (by (try dsimp only); decide) rfl hg [44] (by (try dsimp only); decide) (by (try dsimp only); decide) (by (try dsimp only); decide))
    (fun W0 B e tk tm op M w h _ _ => read_term W0 B ⟨pb.s, 8, 8, e, true, tk, tm, op, M⟩ ⟨pb.s, 10, 8, e, true, tk, tm, op, M⟩ _ w h rfl 2 (bs [64, 98]) ⟨#[]⟩ ⟨#[]⟩ (h.ltSize.withA 10)
      (qn W0 B _ _ (by (try dsimp only); decide) (by (try dsimp only); decide) 0 (by (try dsimp only); decide)) (hn W0 B _ _ (by (try dsimp only); decide) (by (try dsimp only); decide) (by (try dsimp only); decide))
      (fun w' h' => termSign_word W0 B _ _ w' h' (by (try dsimp only); decide) (by (try dsimp only); decide) pb_s4 1 (by (try dsimp only); decide) (by (try dsimp only); decide) (by (try dsimp only); decide)))
    (fun W0 B e tk tm op M w h hg _ => read_sign W0 B ⟨pb.s, 10, 10, e, false, tk, tm, op, M⟩ _ w h (by (try dsimp only); decide) (by (try dsimp only); decide) rfl hg [41] (by (try dsimp only); decide) (by (try dsimp only); decide) (by (try dsimp only); decide))
    (fun W0 B e tk tm op M w h hg _ => read_sign W0 B ⟨pb.s, 12, 12, e, false, tk, tm, op, M⟩ _ w h (by (try dsimp only); decide) (by (try dsimp only); decide) rfl hg [61] (by (try dsimp only); decide) (by (try dsimp only); decide) (by (try dsimp only); decide))
    (fun W0 B e tk tm op M w h _ _ => read_term W0 B ⟨pb.s, 14, 14, e, true, tk, tm, op, M⟩ ⟨pb.s, 16, 14, e, true, tk, tm, op, M⟩ _ w h rfl 2 (bs [64, 95]) ⟨#[]⟩ ⟨#[]⟩ (h.ltSize.withA 16)
      (qn W0 B _ _ (by (try dsimp only); decide) (by (try dsimp only); decide) 0 (by (try dsimp only); decide)) (hn W0 B _ _ (by (try dsimp only); decide) (by (try dsimp only); decide) (by (try dsimp only); decide))
      (fun w' h' => termSign_word W0 B _ _ w' h' (by (try dsimp only); decide) (by (try dsimp only); decide) pb_s7 1 (by (try dsimp only); decide) (by (try dsimp only); decide) (by (try dsimp only); decide)))
    (fun W0 B e tk tm op M w h hg _ => read_sign W0 B ⟨pb.s, 16, 16, e, false, tk, tm, op, M⟩ _ w h (by (try dsimp only); decide) (by (try dsimp only); decide) rfl hg [59] (by (try dsimp only); decide) (by (try dsimp only); decide) (by (try dsimp only); decide))
  add := lt9
    (fun W0 B e tk tm op M w h => add_tok W0 B _ _ w h 0 [109, 121] (by decide) (by decide) rfl)
    (fun W0 B e tk tm op M w h => add_sg W0 B _ _ w h [40] (by decide) (by decide) (by decide) rfl)
    (fun W0 B e tk tm op M w h => add_tok W0 B _ _ w h 2 [36, 97] (by decide) (by decide) rfl)
    (fun W0 B e tk tm op M w h => add_sg W0 B _ _ w h [44] (by decide) (by decide) (by decide) rfl)
    (fun W0 B e tk tm op M w h => add_tok W0 B _ _ w h 2 [64, 98] (by decide) (by decide) rfl)
    (fun W0 B e tk tm op M w h => add_sg W0 B _ _ w h [41] (by decide) (by decide) (by decide) rfl)
    (fun W0 B e tk tm op M w h => add_sg W0 B _ _ w h [61] (by decide) (by decide) (by decide) rfl)
    (fun W0 B e tk tm op M w h => add_tok W0 B _ _ w h 2 [64, 95] (by decide) (by decide) rfl)
    (fun W0 B e tk tm op M w h => add_sg W0 B _ _ w h [59] (by decide) (by decide) (by decide) rfl)

/-- The text `f(1;`. -/
def pc : Plan where
  s := ⟨#[102, 40, 49, 59]⟩
  k := 4
  A := fun | 0 => 0 | 1 => 1 | 2 => 2 | 3 => 3 | _ => 4
  Z := fun | 0 => 1 | 1 => 2 | 2 => 3 | _ => 4
  T := fun | 0 => true | 1 => false | 2 => true | 3 => false | _ => true
  R := fun
    | 0 => ⟨[], 0, [], [], []⟩
    | 1 => ⟨([]) ++ tokC 0 0 [102], 0 + 1, ([]) ++ [true], [], []⟩
    | 2 => ⟨(([]) ++ tokC 0 0 [102]) ++ tokC 3 1 [40], 0 + 1 + 1, (([]) ++ [true]) ++ [false], [], []⟩
    | 3 => ⟨((([]) ++ tokC 0 0 [102]) ++ tokC 3 1 [40]) ++ tokC 1 2 [49], 0 + 1 + 1 + 1, ((([]) ++ [true]) ++ [false]) ++ [true], [], []⟩
    | _ => ⟨(((([]) ++ tokC 0 0 [102]) ++ tokC 3 1 [40]) ++ tokC 1 2 [49]) ++ tokC 3 3 [59], 0 + 1 + 1 + 1 + 1, (((([]) ++ [true]) ++ [false]) ++ [true]) ++ [false], [], []⟩
  tok := fun | 0 => tokA 0 [102] | 1 => tokA 3 [40] | 2 => tokA 1 [49] | _ => tokA 3 [59]
theorem pc_s0 : pc.s[0]'(by decide) ∉ sgL := by decide
theorem pc_s2 : pc.s[2]'(by decide) ∉ sgL := by decide
set_option maxRecDepth 100000 in
set_option maxHeartbeats 8000000 in
theorem pc_ok : pc.Ok where
  small := by decide
  gap0 := by decide
  gaps := lt4 (by decide) (by decide) (by decide) (by decide)
  lt := lt4 (by decide) (by decide) (by decide) (by decide)
  fin := by decide
  ml := fun | 0 => rfl | 1 => rfl | 2 => rfl | 3 => rfl | _ + 4 => rfl
  read := lt4
    (fun W0 B e tk tm op M w h _ _ => read_word_t W0 B ⟨pc.s, 0, 0, e, true, tk, tm, op, M⟩ _ w h (by (try dsimp only); decide) (by (try dsimp only); decide) rfl (qn W0 B _ _ (by (try dsimp only); decide) (by (try dsimp only); decide) 0 (by (try dsimp only); decide)) (hn W0 B _ _ (by (try dsimp only); decide) (by (try dsimp only); decide) (by (try dsimp only); decide)) (mn W0 B _ _ (by (try dsimp only); decide) (by (try dsimp only); decide) pc_s0) 1 (by (try dsimp only); decide) (by (try dsimp only); decide) (by (try dsimp only); decide))
    (fun W0 B e tk tm op M w h hg _ => read_sign W0 B ⟨pc.s, 1, 1, e, false, tk, tm, op, M⟩ _ w h (by (try dsimp only); decide) (by (try dsimp only); decide) rfl hg [40] (by (try dsimp only); decide) (by (try dsimp only); decide) (by (try dsimp only); decide))
    (fun W0 B e tk tm op M w h _ _ => read_num_t W0 B ⟨pc.s, 2, 2, e, true, tk, tm, op, M⟩ _ w h (by (try dsimp only); decide) (by (try dsimp only); decide) rfl (qn W0 B _ _ (by (try dsimp only); decide) (by (try dsimp only); decide) 0 (by (try dsimp only); decide)) (hn W0 B _ _ (by (try dsimp only); decide) (by (try dsimp only); decide) (by (try dsimp only); decide)) (mn W0 B _ _ (by (try dsimp only); decide) (by (try dsimp only); decide) pc_s2) 1 (by (try dsimp only); decide) (by (try dsimp only); decide) (by (try dsimp only); decide))
    (fun W0 B e tk tm op M w h hg _ => read_sign W0 B ⟨pc.s, 3, 3, e, false, tk, tm, op, M⟩ _ w h (by (try dsimp only); decide) (by (try dsimp only); decide) rfl hg [59] (by (try dsimp only); decide) (by (try dsimp only); decide) (by (try dsimp only); decide))
  add := lt4
    (fun W0 B e tk tm op M w h => add_tok W0 B _ _ w h 0 [102] (by decide) (by decide) rfl)
    (fun W0 B e tk tm op M w h => add_sg W0 B _ _ w h [40] (by decide) (by decide) (by decide) rfl)
    (fun W0 B e tk tm op M w h => add_tok W0 B _ _ w h 1 [49] (by decide) (by decide) rfl)
    (fun W0 B e tk tm op M w h => add_sg W0 B _ _ w h [59] (by decide) (by decide) (by decide) rfl)

theorem lex_pa (w : World) (hg : SigAt w) : Calls Tryz.prog 49 #[.string ⟨#[36, 120, 45, 62, 91, 49, 93, 91, 50, 93]⟩] w (LxP pa w) :=
  lex_plan pa pa_ok (by decide) (by decide) rfl rfl (by decide) w hg
theorem lex_pb (w : World) (hg : SigAt w) : Calls Tryz.prog 49 #[.string ⟨#[109, 121, 32, 40, 36, 97, 44, 32, 64, 98, 41, 32, 61, 32, 64, 95, 59]⟩] w (LxP pb w) :=
  lex_plan pb pb_ok (by decide) (by decide) rfl rfl (by decide) w hg
theorem lex_pc (w : World) (hg : SigAt w) : Calls Tryz.prog 49 #[.string ⟨#[102, 40, 49, 59]⟩] w (LxP pc w) :=
  lex_plan pc pc_ok (by decide) (by decide) rfl rfl (by decide) w hg

end Go.Proofs.YtaocbhfehncdcaaGreatDoor
