/-
  What the law knows: the tokens of two texts. Conditions: the row of signs holds what the program's text lays.
-/
import Derived.Test.YtaocbhfehncdcaaGreatDoorXLx
import Derived.Test.YtaocbhfehncdcaaGreatDoorXM14
import Derived.Test.YtaocbhfehncdcaaGreatDoorXM16
import Derived.Test.YtaocbhfehncdcaaGreatDoorXM17
import Derived.Test.YtaocbhfehncdcaaGreatDoorXM18
namespace Go.Proofs.YtaocbhfehncdcaaGreatDoor
open Go.RowKit

def tokC (k a : Int) (x : List UInt8) : List Value := [.int .i64 k, .int .i64 a, .string (bs x), .string ⟨#[]⟩, .string ⟨#[]⟩, .int .i64 0]
def tokA (k : Int) (x : List UInt8) : Value := .agg #[.int .i64 k, .int .i64 0, .string (bs x), .string ⟨#[]⟩, .string ⟨#[]⟩, .int .i64 0]
/-- The text `$x / 2`. -/
def plan1 : Plan where
  s := ⟨#[36, 120, 32, 47, 32, 50]⟩
  k := 3
  A := fun | 0 => 0 | 1 => 3 | 2 => 5 | _ => 6
  Z := fun | 0 => 2 | 1 => 4 | _ => 6
  T := fun | 0 => true | 1 => false | 2 => true | _ => false
  R := fun
    | 0 => ⟨[], 0, [], [], []⟩
    | 1 => ⟨[] ++ tokC 2 0 [36, 120], 0 + 1, [] ++ [true], [], []⟩
    | 2 => ⟨([] ++ tokC 2 0 [36, 120]) ++ tokC 3 3 [47], 0 + 1 + 1, ([] ++ [true]) ++ [false], [], []⟩
    | _ => ⟨(([] ++ tokC 2 0 [36, 120]) ++ tokC 3 3 [47]) ++ tokC 1 5 [50], 0 + 1 + 1 + 1, (([] ++ [true]) ++ [false]) ++ [true], [], []⟩
  tok := fun | 0 => tokA 2 [36, 120] | 1 => tokA 3 [47] | _ => tokA 1 [50]
/-- The text `f(/2/)`. -/
def plan2 : Plan where
  s := ⟨#[102, 40, 47, 50, 47, 41]⟩
  k := 4
  A := fun | 0 => 0 | 1 => 1 | 2 => 2 | 3 => 5 | _ => 6
  Z := fun | 0 => 1 | 1 => 2 | 2 => 5 | _ => 6
  T := fun | 0 => true | 1 => false | 2 => true | 3 => false | _ => false
  R := fun
    | 0 => ⟨[], 0, [], [], []⟩
    | 1 => ⟨[] ++ tokC 0 0 [102], 0 + 1, [] ++ [true], [], []⟩
    | 2 => ⟨([] ++ tokC 0 0 [102]) ++ tokC 3 1 [40], 0 + 1 + 1, ([] ++ [true]) ++ [false], [], []⟩
    | 3 => ⟨(([] ++ tokC 0 0 [102]) ++ tokC 3 1 [40]) ++ tokC 7 2 [50], 0 + 1 + 1 + 1, (([] ++ [true]) ++ [false]) ++ [true], [], []⟩
    | _ => ⟨((([] ++ tokC 0 0 [102]) ++ tokC 3 1 [40]) ++ tokC 7 2 [50]) ++ tokC 3 5 [41], 0 + 1 + 1 + 1 + 1, ((([] ++ [true]) ++ [false]) ++ [true]) ++ [false], [], []⟩
  tok := fun | 0 => tokA 0 [102] | 1 => tokA 3 [40] | 2 => tokA 7 [50] | _ => tokA 3 [41]

theorem AdP.ro {W0 B : Nat} {σ : Sf} {ρ : Sr} {k : Int} {x : List UInt8} {y z : ByteArray} {o : Int} {w : World} {en : Ending} {w' : World} (h : AdP W0 B σ ρ k x y z o w en w') :
    RoP W0 B σ.s σ.a σ.b σ.a (exB k x o σ.t) σ.tk σ.tm σ.op σ.M ⟨ρ.tc ++ [.int .i64 k, .int .i64 (σ.b : Int), .string (bs x), .string y, .string z, .int .i64 o], ρ.n + 1, ρ.tl ++ [σ.t], ρ.ol, ρ.ml⟩ w en w' := by
  obtain ⟨he, v5, v6, h1, h2, h3, h4⟩ := h
  exact ⟨he, v5, v6, σ.op, h1, h2.low, fun T hT hB hA => ⟨h2.far T hT hB hA.a hA.b, h3 T hT hA.a, h4 T hT hA.b, hA.c⟩⟩
theorem AsP.ro {W0 B : Nat} {σ : Sf} {ρ : Sr} {x : List UInt8} {y z : ByteArray} {o : Int} {w : World} {en : Ending} {w' : World} (h : AsP W0 B σ ρ σ.op ρ.ol x y z o w en w') :
    RoP W0 B σ.s σ.a σ.b σ.a (exB 3 x o σ.t) σ.tk σ.tm σ.op σ.M ⟨ρ.tc ++ [.int .i64 3, .int .i64 (σ.b : Int), .string (bs x), .string y, .string z, .int .i64 o], ρ.n + 1, ρ.tl ++ [σ.t], ρ.ol, ρ.ml⟩ w en w' := by
  obtain ⟨he, v5, v6, h1, h2, h3, h4, h5⟩ := h
  exact ⟨he, v5, v6, σ.op, h1, h2, fun T hT hB hA => ⟨h3 T hT hB hA.a hA.b hA.c, h4 T hT hA.a, h5 T hT hA.b, hA.c⟩⟩

/-- Where neither a quote nor a heredoc begins. -/
theorem qn (W0 B : Nat) (σ : Sf) (ρ : Sr) (hs : σ.s.size ≤ 100000) (ha : σ.a < σ.s.size) (k : Int) (hno : qkd (σ.s.data.toList.drop σ.a) = (k, -1)) :
    ∀ w', IsSc W0 B σ ρ w' → Calls Tryz.prog 149 #[.pointer (some ⟨B, 0, none⟩)] w' (ScP W0 B noTok σ ρ w') := fun w' h => quote_none W0 B σ ρ w' h hs ha k hno
theorem hn (W0 B : Nat) (σ : Sf) (ρ : Sr) (hs : σ.s.size ≤ 100000) (ha : σ.a ≤ σ.s.size) (hno : ([60, 60] : List UInt8).isPrefixOf (σ.s.data.toList.drop σ.a) = false) :
    ∀ w', IsSc W0 B σ ρ w' → Calls Tryz.prog 150 #[.pointer (some ⟨B, 0, none⟩)] w' (ScP W0 B noTok σ ρ w') := fun w' h => heredoc_none W0 B σ ρ w' h hs ha hno
theorem mn (W0 B : Nat) (σ : Sf) (ρ : Sr) (hs : σ.s.size ≤ 100000) (ha : σ.a < σ.s.size) (hno : σ.s[σ.a] ∉ sgL) :
    ∀ w', IsSc W0 B σ ρ w' → Calls Tryz.prog 151 #[.pointer (some ⟨B, 0, none⟩)] w' (ScP W0 B noTok σ ρ w') := fun w' h => termSign_none W0 B σ ρ w' h hs ha hno
/-- A sign that is no brace is added. -/
theorem add_sg (W0 B : Nat) (σ : Sf) (ρ : Sr) (w : World) (h : IsSc W0 B σ ρ w) (x : List UInt8) (h1 : x ≠ [123]) (h2 : x ≠ [125]) (hn : ρ.n ≤ 100000) (ht : ρ.tl.length = ρ.n) :
    Calls Tryz.prog 132 #[.pointer (some ⟨B, 0, none⟩), tokA 3 x] w (RoP W0 B σ.s σ.a σ.b σ.a (exB 3 x 0 σ.t) σ.tk σ.tm σ.op σ.M ⟨ρ.tc ++ tokC 3 σ.b x, ρ.n + 1, ρ.tl ++ [σ.t], ρ.ol, ρ.ml⟩ w) :=
  (add_sign W0 B σ ρ w h 0 x ⟨#[]⟩ ⟨#[]⟩ 0 0 σ.op ρ.ol (fun w' h' => (meaning_other _ x w' h1 h2).mono fun e w2 he => by
    obtain ⟨rfl, rfl⟩ := he
    exact MeP.same h' 0) hn ht).mono fun _ _ h => h.ro
theorem add_tok (W0 B : Nat) (σ : Sf) (ρ : Sr) (w : World) (h : IsSc W0 B σ ρ w) (k : Int) (x : List UInt8) (hk : k ≠ 3) (hn : ρ.n ≤ 100000) (ht : ρ.tl.length = ρ.n) :
    Calls Tryz.prog 132 #[.pointer (some ⟨B, 0, none⟩), tokA k x] w (RoP W0 B σ.s σ.a σ.b σ.a (exB k x 0 σ.t) σ.tk σ.tm σ.op σ.M ⟨ρ.tc ++ tokC k σ.b x, ρ.n + 1, ρ.tl ++ [σ.t], ρ.ol, ρ.ml⟩ w) :=
  (add_plain W0 B σ ρ w h k 0 x ⟨#[]⟩ ⟨#[]⟩ 0 hk hn ht).mono fun _ _ h => h.ro
theorem lt3 {P : Nat → Prop} (h0 : P 0) (h1 : P 1) (h2 : P 2) : ∀ i, i < 3 → P i
  | 0, _ => h0
  | 1, _ => h1
  | 2, _ => h2
  | i + 3, h => absurd h (by omega)
theorem lt4 {P : Nat → Prop} (h0 : P 0) (h1 : P 1) (h2 : P 2) (h3 : P 3) : ∀ i, i < 4 → P i
  | 0, _ => h0
  | 1, _ => h1
  | 2, _ => h2
  | 3, _ => h3
  | i + 4, h => absurd h (by omega)

theorem k10 : plan1.s[0]'(by decide) ∈ sgL := by decide
theorem k15 : plan1.s[5]'(by decide) ∉ sgL := by decide
theorem k20 : plan2.s[0]'(by decide) ∉ sgL := by decide
theorem k22 : plan2.s[2 + 0]'(by decide) = 47 := by decide

theorem plan1_ok : plan1.Ok where
  small := by decide
  gap0 := by decide
  gaps := lt3 (by decide) (by decide) (by decide)
  lt := lt3 (by decide) (by decide) (by decide)
  fin := by decide
  ml := fun | 0 => rfl | 1 => rfl | 2 => rfl | _ + 3 => rfl
  read := lt3
    (fun W0 B e tk tm op M w h _ _ => read_term W0 B ⟨plan1.s, 0, 0, e, true, tk, tm, op, M⟩ ⟨plan1.s, 2, 0, e, true, tk, tm, op, M⟩ _ w h rfl 2 (bs [36, 120]) ⟨#[]⟩ ⟨#[]⟩ (h.ltSize.withA 2)
      (qn W0 B _ _ (by (try dsimp only); decide) (by (try dsimp only); decide) 0 (by (try dsimp only); decide)) (hn W0 B _ _ (by (try dsimp only); decide) (by (try dsimp only); decide) (by (try dsimp only); decide))
      (fun w' h' => termSign_word W0 B _ _ w' h' (by (try dsimp only); decide) (by (try dsimp only); decide) k10 1 (by (try dsimp only); decide) (by (try dsimp only); decide) (by (try dsimp only); decide)))
    (fun W0 B e tk tm op M w h hg _ => read_sign W0 B ⟨plan1.s, 3, 3, e, false, tk, tm, op, M⟩ _ w h (by (try dsimp only); decide) (by (try dsimp only); decide) rfl hg [47] (by (try dsimp only); decide) (by (try dsimp only); decide) (by (try dsimp only); decide))
    (fun W0 B e tk tm op M w h _ _ => read_num_t W0 B ⟨plan1.s, 5, 5, e, true, tk, tm, op, M⟩ _ w h (by (try dsimp only); decide) (by (try dsimp only); decide) rfl (qn W0 B _ _ (by (try dsimp only); decide) (by (try dsimp only); decide) 0 (by (try dsimp only); decide)) (hn W0 B _ _ (by (try dsimp only); decide) (by (try dsimp only); decide) (by (try dsimp only); decide)) (mn W0 B _ _ (by (try dsimp only); decide) (by (try dsimp only); decide) k15) 1 (by (try dsimp only); decide) (by (try dsimp only); decide) (by (try dsimp only); decide))
  add := lt3
    (fun W0 B e tk tm op M w h => add_tok W0 B _ _ w h 2 [36, 120] (by decide) (by decide) rfl)
    (fun W0 B e tk tm op M w h => add_sg W0 B _ _ w h [47] (by decide) (by decide) (by decide) rfl)
    (fun W0 B e tk tm op M w h => add_tok W0 B _ _ w h 1 [50] (by decide) (by decide) rfl)

theorem plan2_ok : plan2.Ok where
  small := by decide
  gap0 := by decide
  gaps := lt4 (by decide) (by decide) (by decide) (by decide)
  lt := lt4 (by decide) (by decide) (by decide) (by decide)
  fin := by decide
  ml := fun | 0 => rfl | 1 => rfl | 2 => rfl | 3 => rfl | _ + 4 => rfl
  read := lt4
    (fun W0 B e tk tm op M w h _ _ => read_word_t W0 B ⟨plan2.s, 0, 0, e, true, tk, tm, op, M⟩ _ w h (by (try dsimp only); decide) (by (try dsimp only); decide) rfl (qn W0 B _ _ (by (try dsimp only); decide) (by (try dsimp only); decide) 0 (by (try dsimp only); decide)) (hn W0 B _ _ (by (try dsimp only); decide) (by (try dsimp only); decide) (by (try dsimp only); decide)) (mn W0 B _ _ (by (try dsimp only); decide) (by (try dsimp only); decide) k20) 1 (by (try dsimp only); decide) (by (try dsimp only); decide) (by (try dsimp only); decide))
    (fun W0 B e tk tm op M w h hg _ => read_sign W0 B ⟨plan2.s, 1, 1, e, false, tk, tm, op, M⟩ _ w h (by (try dsimp only); decide) (by (try dsimp only); decide) rfl hg [40] (by (try dsimp only); decide) (by (try dsimp only); decide) (by (try dsimp only); decide))
    (fun W0 B e tk tm op M w h _ _ => read_quote W0 B ⟨plan2.s, 2, 2, e, true, tk, tm, op, M⟩ ⟨plan2.s, 5, 2, e, true, tk, tm, op, M⟩ _ w h rfl 7 (bs [50]) ⟨#[]⟩ ⟨#[]⟩ (h.ltSize.withA 5)
      (fun w' h' => quote_pat W0 B _ _ w' h' (by (try dsimp only); decide) (by (try dsimp only); decide) (gd_nil _) 0 3 5 5 47 [50] (by (try dsimp only); decide) (by (try dsimp only); decide) k22 (by (try dsimp only); decide) (by (try dsimp only); decide) (by (try dsimp only); decide) (by (try dsimp only); decide) (by (try dsimp only); decide)))
    (fun W0 B e tk tm op M w h hg _ => read_sign W0 B ⟨plan2.s, 5, 5, e, false, tk, tm, op, M⟩ _ w h (by (try dsimp only); decide) (by (try dsimp only); decide) rfl hg [41] (by (try dsimp only); decide) (by (try dsimp only); decide) (by (try dsimp only); decide))
  add := lt4
    (fun W0 B e tk tm op M w h => add_tok W0 B _ _ w h 0 [102] (by decide) (by decide) rfl)
    (fun W0 B e tk tm op M w h => add_sg W0 B _ _ w h [40] (by decide) (by decide) (by decide) rfl)
    (fun W0 B e tk tm op M w h => add_tok W0 B _ _ w h 7 [50] (by decide) (by decide) rfl)
    (fun W0 B e tk tm op M w h => add_sg W0 B _ _ w h [41] (by decide) (by decide) (by decide) rfl)

end Go.Proofs.YtaocbhfehncdcaaGreatDoor
