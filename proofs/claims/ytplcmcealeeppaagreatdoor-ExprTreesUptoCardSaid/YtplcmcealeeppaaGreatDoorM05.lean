/- The program: the tokens of a line. -/
import Derived.Lib.Builder
import Derived.Lib.AppendStr
import Derived.Laws.Externs
import Derived.Test.YtplcmcealeeppaaGreatDoorM04
import Derived.Test.YtplcmcealeeppaaGreatDoorM03
import Derived.Test.YtplcmcealeeppaaGreatDoorM01
import Derived.Test.YtplcmcealeeppaaGreatDoorM02
import Derived.Test.YtplcmcealeeppaaGreatDoorLxg
set_option linter.unusedVariables false
set_option linter.unusedSimpArgs false
set_option linter.unusedVariables false
set_option linter.unusedSimpArgs false
namespace Go.Proofs.YtplcmcealeeppaaGreatDoor
open Go Go.RowKit L8

theorem toks_skip : ∀ (m : Nat) (s : Bs) (p : Nat), m ≤ s.length → (∀ j, j < m → s.getD j 0 = 32) → toks s p = toks (s.drop m) (p + m) := by
  intro m
  induction m with
  | zero => intro s p _ _; rfl
  | succ m ih =>
    intro s p hl h
    cases s with
    | nil => simp at hl
    | cons c r =>
      have hc : c = 32 := h 0 (by omega)
      rw [hc, toks_sp, List.drop_succ_cons, ih r (p + 1) (by simpa using hl) (fun j hj => h (j + 1) (by omega)), show p + 1 + m = p + (m + 1) by omega]
theorem toks_skip' {s : Bs} {p q : Nat} (h1 : p ≤ q) (h2 : q ≤ s.length) (h : ∀ j, p ≤ j → j < q → s.getD j 0 = 32) : toks (s.drop p) p = toks (s.drop q) q := by
  have := toks_skip (q - p) (s.drop p) p (by rw [List.length_drop]; omega) (fun j hj => by
    have h3 := h (p + j) (by omega) (by omega)
    simpa using h3)
  rw [this, List.drop_drop, show p + (q - p) = q by omega]
def Skip2 (w : World) (b : Nat) (L : Bs) (p : Nat) (e : Ending) (w' : World) : Prop :=
  (∃ q c r, p ≤ q ∧ q < L.length ∧ L.drop q = c :: r ∧ c ≠ 32 ∧ toks (L.drop p) p = toks (c :: r) q ∧ e = .returned (.bool true) ∧ ReadR w w' b L q) ∨
  (toks (L.drop p) p = .ok [] ∧ e = .returned (.bool false) ∧ w.grownBy w' (some b))
theorem skip_two {b p : Nat} {L : Bs} {w : World} (h : Rd w b L p) (hL : L.length ≤ 256) (hp : p ≤ L.length) : Calls Tryz.prog 51 #[.pointer (some ⟨b, 0, none⟩)] w (Skip2 w b L p) :=
  (skip_any h hL hp).mono fun e w' ⟨q, h1, h2, h3, h4, h5, h6⟩ => by
    have ht := toks_skip' h1 h2 h3
    by_cases hq : q < L.length
    · left
      have hd : L.drop q = L[q] :: L.drop (q + 1) := List.drop_eq_getElem_cons hq
      have hg : L.getD q 0 = L[q] := by simp [hq]
      refine ⟨q, L[q], L.drop (q + 1), h1, hq, hd, by rw [← hg]; exact h4 hq, by rw [ht, hd], by rw [h5, decide_eq_true hq], h6⟩
    · right
      refine ⟨by rw [ht, List.drop_eq_nil_iff.2 (by omega), toks_nil], by rw [h5, decide_eq_false hq], h6.2⟩
theorem read_any {b p : Nat} {L r : Bs} {c : UInt8} {w : World} (h : Rd w b L p) (ht : W1.Tab w) (hL : L.length ≤ 256) (hc : L.drop p = c :: r) : Calls Tryz.prog (pickF c) #[.pointer (some ⟨b, 0, none⟩)] w (RdR (L8.token (c :: r)) L p b w) := by
  rcases token_cases c with h1 | ⟨h1, h2⟩ | rfl | rfl | ⟨h1, h2, h3, h4⟩
  · rw [pick_1 h1]; exact readWord_any h ht hL hc h1
  · rw [pick_2 h1 h2]; exact readDecimal_any h ht hL hc h1 h2
  · rw [pick_3]; exact readHex_any h ht hL hc
  · rw [pick_4]; exact readCharacter_any h ht hL hc
  · rw [pick_5 h1 h2 h3 h4]; exact readSymbol_any h ht hL hc h1 h2 h3 h4
theorem pick_enter (c : UInt8) (args : Array Value) (W : World) : (callFunc (pickF c) args).run Tryz.prog W = .ok (.enter (pickF c) args) W := by
  rcases token_cases c with h1 | ⟨h1, h2⟩ | rfl | rfl | ⟨h1, h2, h3, h4⟩
  · rw [pick_1 h1]; exact enters_of Tryz.func82 (by kernel_rfl) rfl args W
  · rw [pick_2 h1 h2]; exact enters_of Tryz.func84 (by kernel_rfl) rfl args W
  · rw [pick_3]; exact enters_of Tryz.func85 (by kernel_rfl) rfl args W
  · rw [pick_4]; exact enters_of Tryz.func86 (by kernel_rfl) rfl args W
  · rw [pick_5 h1 h2 h3 h4]; exact enters_of Tryz.func87 (by kernel_rfl) rfl args W
theorem OwnR.keepG {w w' : World} {e : TypeId} {B n c b : Nat} {A : Option Addr} {rs : List Tk} (h : OwnR w e B A n c rs) (g : w.grownBy w' (some b)) (hb : b < B) : OwnR w' e B A n c rs := by
  refine World.ownsRow.kept h g ?_
  cases A with
  | none => simp [Value.ownBlock]
  | some ad =>
    have := (owned_ge h ad rfl).1
    simp [Value.ownBlock]
    omega
theorem rd_grow {w w' : World} {e : TypeId} {B n c b p : Nat} {A : Option Addr} {rs : List Tk} {L : Bs} (h : OwnR w e B A n c rs) (g : w.grownBy w' (Value.slice A n c).ownBlock) (hb : b < B) (R : Rd w b L p) : Rd w' b L p := by
  refine BoxS.kept R g ?_
  cases A with
  | none => simp [Value.ownBlock]
  | some ad =>
    have := (owned_ge h ad rfl).1
    simp [Value.ownBlock]
    omega
/-- What is known at the head of a round. -/
def TokI (w wr : World) (s : Bs) (p : Nat) (A : Option Addr) (m c2 : Nat) : Prop :=
  Below w.heap.size w wr ∧ Rd wr w.heap.size s p ∧ ∃ out, OwnR wr 47 (w.heap.size + 1) A m c2 out ∧ toks s 0 = addT out (toks (s.drop p) p)
theorem TokI.turn {w X Y : World} {s : Bs} {p q m c2 : Nat} {A : Option Addr} (h : TokI w X s p A m c2) (k : ReadR X Y w.heap.size s q) (ht : toks (s.drop p) p = toks (s.drop q) q) : TokI w Y s q A m c2 := by
  obtain ⟨h1, h2, out, h3, h4⟩ := h
  exact ⟨h1.trans (below_g k.2 (Nat.le_refl _) h1.size), k.1, out, h3.keepG k.2 (by omega), by rw [h4, ht]⟩
theorem TokI.below {w X Y : World} {s : Bs} {p m c2 : Nat} {A : Option Addr} (h : TokI w X s p A m c2) (k : Below X.heap.size X Y) : TokI w Y s p A m c2 := by
  obtain ⟨h1, h2, out, h3, h4⟩ := h
  exact ⟨blw h1 k, h2.below k, out, h3.keep k, h4⟩
theorem TokI.tab {w X : World} {s : Bs} {p m c2 : Nat} {A : Option Addr} (h : TokI w X s p A m c2) (ht : W1.Tab w) : W1.Tab X := ht.below h.1
theorem TokI.err {w X : World} {s r : Bs} {c : UInt8} {p m c2 : Nat} {A : Option Addr} (h : TokI w X s p A m c2) (hd : s.drop p = c :: r) (hc : c ≠ 32) (ht : L8.token (c :: r) = none) : toks s 0 = .error p := by
  obtain ⟨h1, h2, out, h3, h4⟩ := h
  rw [h4, hd, toks_bad hc ht]
  rfl
/-- What is known of a token that has been read, not yet appended. -/
def TokR (w X : World) (s : Bs) (p : Nat) (A : Option Addr) (m c2 : Nat) (x : Tk) : Prop :=
  Below w.heap.size w X ∧ Rd X w.heap.size s p ∧ ∃ out, OwnR X 47 (w.heap.size + 1) A m c2 out ∧ toks s 0 = addT (out ++ [x]) (toks (s.drop p) p)
theorem TokI.got {w X Y : World} {s r tx : Bs} {c : UInt8} {p m c2 k n : Nat} {v : Int} {A : Option Addr} (h : TokI w X s p A m c2) (hd : s.drop p = c :: r) (hc : c ≠ 32) (ht : L8.token (c :: r) = some (k, tx, v, n)) (g : X.grownBy Y (some w.heap.size)) (R : Rd Y w.heap.size s (p + n)) : TokR w Y s (p + n) A m c2 ⟨k, (p : Int), tx, v⟩ := by
  obtain ⟨h1, h2, out, h3, h4⟩ := h
  refine ⟨h1.trans (below_g g (Nat.le_refl _) h1.size), R, out, h3.keepG g (by omega), ?_⟩
  rw [h4, hd, toks_tok hc ht, ← hd, List.drop_drop]
  exact addT_snoc out _ _
theorem TokR.below {w X Y : World} {s : Bs} {p m c2 : Nat} {A : Option Addr} {x : Tk} (h : TokR w X s p A m c2 x) (k : Below X.heap.size X Y) : TokR w Y s p A m c2 x := by
  obtain ⟨h1, h2, out, h3, h4⟩ := h
  exact ⟨blw h1 k, h2.below k, out, h3.keep k, h4⟩
/-- The token appended. -/
theorem TokR.app {w X Y : World} {s : Bs} {p m c2 c3 : Nat} {A A3 : Option Addr} {x : Tk} {out : List Tk} (h1 : Below w.heap.size w X) (h2 : Rd X w.heap.size s p) (h3 : OwnR X 47 (w.heap.size + 1) A m c2 out) (h4 : toks s 0 = addT (out ++ [x]) (toks (s.drop p) p))
    (o : OwnR Y 47 (w.heap.size + 1) A3 (m + 1) c3 (out ++ [x])) (g : X.grownBy Y (Value.slice A m c2).ownBlock) : TokI w Y s p A3 (m + 1) c3 :=
  ⟨bgrow h1 h3 (Nat.le_succ _) g, rd_grow h3 g (by omega) h2, _, o, h4⟩
theorem TokI.done {w X : World} {s : Bs} {p m c2 : Nat} {A : Option Addr} (h : TokI w X s p A m c2) (h2 : toks (s.drop p) p = .ok []) {Y : World} (k : X.grownBy Y (some w.heap.size)) (hl : ¬ 256 < s.length) : GivesT w s (.returned (.tuple #[.slice A m c2, .int .i64 0, .int .i64 0])) Y := by
  obtain ⟨h1, _, out, h3, h4⟩ := h
  rw [h2] at h4
  have ht : toks s 0 = .ok out := by rw [h4]; simp [addT]
  have hm := h3.len
  unfold GivesT
  rw [tokens_ok hl ht]
  dsimp only
  rw [hm]
  exact ⟨A, c2, rfl, (h3.keepG k (by omega)).base (by omega), h1.trans (below_g k (Nat.le_refl _) h1.size)⟩
set_option maxRecDepth 100000 in
set_option maxHeartbeats 16000000 in
theorem Tokens_any (s : Bs) (hl : s.length ≤ maxLen) (w : World) (ht : W1.Tab w) : Calls Tryz.prog 28 #[.string (strOf s)] w (GivesT w s) := by
  have hsz := size_strOf s
  obtain ⟨N, hN⟩ : ∃ N, s.length = N := ⟨_, rfl⟩
  rw [hN] at hsz hl
  unfold maxLen at hl
  by_cases h256 : (256 : Int) < (N : Int)
  · have HE := Lib.hid (givesT_err (w := w) (tokens_long (s := s) (by omega)) (b0 w))
    clear hN
    go_enter Tryz.func28, Tryz.ntmps28
    go_wp2
    go_ret3
    exact HE.out
  · have HErr := Lib.hid (fun (p : Nat) (w' : World) (h : toks s 0 = .error p) (b : Below w.heap.size w w') => givesT_err (w := w) (w' := w') (tokens_err (s := s) (by omega) h) b)
    have HOk := Lib.hid (fun (l : List Tk) (h : toks s 0 = .ok l) => tokens_ok (s := s) (by omega) h)
    have HN := Lib.hid hN
    have HT := Lib.hid ht
    have HI : Hid (TokI w (w.alloc (.cells #[.string (strOf s), .int .i64 0] 97)) s 0 none 0 0) := Lib.hid ⟨bal (b0 w) _, boxS_new w _ _, [], ownR_nil _ _ _, by rw [List.drop_zero]; cases toks s 0 <;> rfl⟩
    have hN2 : N ≤ 256 := by omega
    have hN3 : (N : Int) ≤ 256 := by omega
    clear hN hl ht
    go_enter Tryz.func28, Tryz.ntmps28
    go_wp2
    generalize w.alloc (.cells #[.string (strOf s), .int .i64 0] 97) = V at *
    go_loopg [2] N (fun g v wr => ∃ p m c2 : Nat, ∃ A, p ≤ N ∧ m ≤ p ∧ g = N - p ∧ v = .slice A m c2 ∧ Hid (TokI w wr s p A m c2))
    case atStart => exact ⟨0, 0, 0, none, Nat.zero_le _, Nat.le_refl _, rfl, rfl, HI⟩
    case round =>
      obtain ⟨p, m, c2, A, hp, hmp, rfl, rfl, H⟩ := hrel
      have CS := Lib.hid (skip_two H.out.2.1 (by have := HN.out; omega) (by have := HN.out; omega))
      go_wp2_with fail
      refine (CS.out).mono ?_
      rintro e v1 (⟨q, c, r, hq1, hq2, hd, hc, htk, rfl, hr⟩ | ⟨htk, rfl, hg⟩)
      · have hqN : q < N := by have := HN.out; omega
        have H1 := Lib.hid (H.out.turn hr (by rw [htk, hd]))
        obtain ⟨c0, c1, f1, hb⟩ := hr.1.cells
        have hL2 : s.length ≤ 256 := by have := HN.out; omega
        have CC := Lib.hid (chosen_any hr.1 hL2 hd)
        have CRd := Lib.hid (fun (X : World) (h : TokI w X s q A m c2) => read_any h.2.1 (h.tab HT.out) hL2 hd)
        have hent := fun args W => pick_enter c args W
        have hq0 : (0 : Int) ≤ (q : Int) := by omega
        have hq1' : (q : Int) ≤ 256 := by omega
        clear H hr CS htk
        generalize pickF c = F at *
        cases htok : L8.token (c :: r) with
        | none =>
          rw [htok] at CRd
          have HE := Lib.hid (fun (X Y : World) (h : TokI w X s q A m c2) (b : Below w.heap.size w Y) => HErr.out q Y (h.err hd hc htok) b)
          have CR2 : Hid (∀ X, TokI w X s q A m c2 → Calls Tryz.prog F #[.pointer (some ⟨w.heap.size, 0, none⟩)] X fun e w' => X.grownBy w' (some w.heap.size) ∧ ∃ (k : Nat) (tx : ByteArray) (v : Int), e = .returned (.tuple #[.agg #[.int .u8 (k : Int), .int .i64 0, .string tx, .int .i32 v], .bool false])) := Lib.hid CRd.out
          clear htok CRd hd hc
          generalize GivesT w s = G at *
          go_wp2_with (first
            | (go_at_call 52; (with_reducible refine (CC.out).mono ?_); rintro e v2 ⟨rfl, b2⟩; have H2 := Lib.hid (H1.out.below b2); clear b2)
            | ((with_reducible refine (CR2.out _ H2.out).mono ?_); rintro e v3 ⟨g3, k, tx, v, rfl⟩; have H3 := Lib.hid (H2.out.1.trans (below_g g3 (Nat.le_refl _) H2.out.1.size)); clear g3))
          exact HE.out _ _ H2.out (H3.out.alloc H3.out.size _)
        | some y =>
          obtain ⟨k, tx, v, n⟩ := y
          have hln := token_len htok
          have hrl := drop_len hd
          rw [HN.out] at hrl
          rw [List.length_cons] at hln
          have hx : OKx ⟨k, (q : Int), tx, v⟩ := by
            obtain ⟨g1, g2⟩ := token_may htok
            exact may_okx (g1 (q : Int) (by omega) (by omega)) g2
          have CR2 : Hid (∀ X, TokI w X s q A m c2 → Calls Tryz.prog F #[.pointer (some ⟨w.heap.size, 0, none⟩)] X fun e w' => e = .returned (.tuple #[.agg #[.int .u8 (k : Int), .int .i64 0, .string (strOf tx), .int .i32 v], .bool true]) ∧ TokR w w' s (q + n) A m c2 ⟨k, (q : Int), tx, v⟩) := Lib.hid fun X h => (CRd.out X h).mono fun e w' g => by
            rw [htok] at g
            exact ⟨g.2.1, h.got hd hc htok g.1 g.2.2⟩
          have r1 : ∀ W : World, RR ((W.alloc (.cells #[.int .u8 (k : Int), .int .i64 (q : Int), .string (strOf tx), .int .i32 v] 47)).alloc (.cells #[.int .u8 (k : Int), .int .i64 (q : Int), .string (strOf tx), .int .i32 v] 47)) (some ⟨W.heap.size + 1, 0, none⟩) 1 [⟨k, (q : Int), tx, v⟩] := fun W => by
            have h := rr_one (w := (W.alloc (.cells #[.int .u8 (k : Int), .int .i64 (q : Int), .string (strOf tx), .int .i32 v] 47)).alloc (.cells #[.int .u8 (k : Int), .int .i64 (q : Int), .string (strOf tx), .int .i32 v] 47)) (e := 47) (q := (W.alloc (.cells #[.int .u8 (k : Int), .int .i64 (q : Int), .string (strOf tx), .int .i32 v] 47)).heap.size) (x := ⟨k, (q : Int), tx, v⟩) hx (boxS_new _ _ _)
            rw [World.size_alloc] at h
            exact h
          have R1 := Lib.hid r1
          have hqn : q + n ≤ N := by omega
          have hn1 : 1 ≤ n := hln.1
          clear htok CRd hd hc hx r1 hln hrl
          generalize strOf tx = S2 at *
          go_wp2_with (first
            | (go_at_call 52; (with_reducible refine (CC.out).mono ?_); rintro e v2 ⟨rfl, b2⟩; have H2 := Lib.hid (H1.out.below b2); clear b2)
            | ((with_reducible refine (CR2.out _ H2.out).mono ?_); rintro e v3 ⟨rfl, h3⟩; have H3 := Lib.hid (TokR.below (TokR.below h3 (bal (b0 _) (.cells #[.int .u8 (k : Int), .int .i64 (q : Int), .string S2, .int .i32 v] 47))) (bal (b0 _) (.cells #[.int .u8 (k : Int), .int .i64 (q : Int), .string S2, .int .i32 v] 47))); clear h3; obtain ⟨g1, g2, out, g3, g4⟩ := H3.out; have K := Lib.hid (And.intro g1 (And.intro g2 (And.intro g3 g4))); clear g1 g2 g3 g4)
            | (at_builtin; (refine app_rws rfl (.tmp 34) (.tmp 36) rfl (w.heap.size + 1) m c2 1 1 (m + 1) A (some ⟨v3.heap.size + 1, 0, none⟩) out [⟨k, (q : Int), tx, v⟩] rfl rfl K.out.2.2.1 rfl (R1.out v3) rfl (by omega) (BoxS.lt K.out.2.1) ?_; intro A3 c3 w5 o2 g2; have H5 := Lib.hid (TokR.app K.out.1 K.out.2.1 K.out.2.2.1 K.out.2.2.2 o2 g2); clear o2 g2)))
          go_roundg (N - (q + n))
          case rel => exact ⟨q + n, m + 1, c3, A3, hqn, by omega, rfl, rfl, H5⟩
          case measure => omega
      · have HE := Lib.hid (H.out.done htk hg (by have := HN.out; omega))
        clear H htk hg CS
        generalize GivesT w s = G at *
        go_wp2
        exact HE.out
end Go.Proofs.YtplcmcealeeppaaGreatDoor
/- The program: the closure that decides on a space. -/
set_option linter.unusedVariables false
set_option linter.unusedSimpArgs false
namespace Go.Proofs.YtplcmcealeeppaaGreatDoor
open Go Go.RowKit L8

/-- Whether there is a space between the token before and this one. -/
def spB (y x : Tk) : Bool := if y.k = 0 then false else !near y x
def bxT (x : Tk) : Array Value := #[.int .u8 (x.k : Int), .int .i64 x.a, .string (strOf x.tx), .int .i32 x.n]
theorem spacing_any (w : World) : Calls Tryz.prog 45 #[] w fun e w' => e = .returned (.func (.func 76) #[] #[.pointer (some ⟨w.heap.size, 0, none⟩)]) ∧ w' = w.alloc (.cells #[.int .u8 0, .int .i64 0, .string ⟨#[]⟩, .int .i32 0] 47) := by
  have hmf : ∀ (fn : Fn) (first cap : Array Value) (w : World), (Instr.makeFunc fn first cap).run Tryz.prog w = .ok (.func fn first cap) w := fun _ _ _ _ => rfl
  go_enter Tryz.func45, Tryz.ntmps45
  go_wp2
  go_ret
  exact ⟨rfl, rfl⟩
/-- The last token lies in the box. -/
theorem set4_g (w : World) (B : Nat) (a b c d : Value) : w.grownBy (set4 w B a b c d) (some B) :=
  g_trans (g_trans (g_trans (g_set w B 0 a) (g_set _ B 1 b)) (g_set _ B 2 c)) (g_set _ B 3 d)
/-- What is known in the closure: the last token's box, and the boxes of its own two tokens. -/
def Spk (w V : World) (B : Nat) (x y : Tk) : Prop := w.grownBy V (some B) ∧ BoxS V B 47 (bxT x) ∧ BoxS V w.heap.size 47 (bxT x) ∧ BoxS V (w.heap.size + 1) 47 (bxT y)
theorem Spk.new {w : World} {B : Nat} {x y : Tk} (h : BoxS w B 47 (bxT y)) : Spk w (((set4 w B (.int .u8 (x.k : Int)) (.int .i64 x.a) (.string (strOf x.tx)) (.int .i32 x.n)).alloc (.cells (bxT x) 47)).alloc (.cells (bxT y) 47)) B x y := by
  have h1 : BoxS (set4 w B (.int .u8 (x.k : Int)) (.int .i64 x.a) (.string (strOf x.tx)) (.int .i32 x.n)) B 47 (bxT x) := box4_all _ _ _ _ h
  have hs : (set4 w B (.int .u8 (x.k : Int)) (.int .i64 x.a) (.string (strOf x.tx)) (.int .i32 x.n)).heap.size = w.heap.size := by unfold set4; simp
  refine ⟨g_trans (g_trans (set4_g w B _ _ _ _) (World.grownBy_alloc _ _ _)) (World.grownBy_alloc _ _ _), BoxS.alloc (BoxS.alloc h1 _) _, ?_, ?_⟩
  · have := boxS_new (set4 w B (.int .u8 (x.k : Int)) (.int .i64 x.a) (.string (strOf x.tx)) (.int .i32 x.n)) 47 (bxT x)
    rw [hs] at this
    exact BoxS.alloc this _
  · have := boxS_new ((set4 w B (.int .u8 (x.k : Int)) (.int .i64 x.a) (.string (strOf x.tx)) (.int .i32 x.n)).alloc (.cells (bxT x) 47)) 47 (bxT y)
    rw [World.size_alloc, hs] at this
    exact this
theorem Spk.below {w V V' : World} {B : Nat} {x y : Tk} (h : Spk w V B x y) (k : Below V.heap.size V V') : Spk w V' B x y :=
  ⟨g_trans h.1 (g_any (g_of_below k) _), h.2.1.below k, h.2.2.1.below k, h.2.2.2.below k⟩
theorem Spk.x {w V : World} {B k : Nat} {a n : Int} {tx : Bs} {y : Tk} (h : Spk w V B ⟨k, a, tx, n⟩ y) : V.cell? ⟨w.heap.size, 0, none⟩ = some (.int .u8 (k : Int)) ∧ V.cell? ⟨w.heap.size, 1, none⟩ = some (.int .i64 a) ∧ V.cell? ⟨w.heap.size, 2, none⟩ = some (.string (strOf tx)) ∧ V.cell? ⟨w.heap.size, 3, none⟩ = some (.int .i32 n) := (box4 h.2.2.1).1
theorem Spk.y {w V : World} {B k : Nat} {a n : Int} {tx : Bs} {x : Tk} (h : Spk w V B x ⟨k, a, tx, n⟩) : V.cell? ⟨w.heap.size + 1, 0, none⟩ = some (.int .u8 (k : Int)) ∧ V.cell? ⟨w.heap.size + 1, 1, none⟩ = some (.int .i64 a) ∧ V.cell? ⟨w.heap.size + 1, 2, none⟩ = some (.string (strOf tx)) ∧ V.cell? ⟨w.heap.size + 1, 3, none⟩ = some (.int .i32 n) := (box4 h.2.2.2).1
theorem spB_0 {y x : Tk} (h : y.k = 0) : spB y x = false := by unfold spB; rw [if_pos h]
theorem spB_n {y x : Tk} (h : y.k ≠ 0) : spB y x = !((opens x && decide (y.k = 1)) || opens y || closes x) := by unfold spB near; rw [if_neg h]
set_option maxRecDepth 100000 in
set_option maxHeartbeats 16000000 in
theorem space_any (x y : Tk) (hx : OKx x) (hy : OKx y) {B : Nat} {w : World} (h : BoxS w B 47 (bxT y)) : Calls Tryz.prog 76 #[rwV x, .pointer (some ⟨B, 0, none⟩)] w fun e w' => e = .returned (.bool (spB y x)) ∧ BoxS w' B 47 (bxT x) ∧ w.grownBy w' (some B) := by
  have CA : Hid (∀ W : World, Calls Tryz.prog 77 #[rwV x, .string ⟨#[44, 59, 58, 41, 93]⟩] W fun e w' => e = .returned (.bool (closes x)) ∧ Below W.heap.size W w') := Lib.hid fun W => by
    have := isAmong_any x [44, 59, 58, 41, 93] hx W
    rwa [among_closes] at this
  have CB : Hid (∀ W : World, Calls Tryz.prog 77 #[rwV y, .string ⟨#[40, 91]⟩] W fun e w' => e = .returned (.bool (opens y)) ∧ Below W.heap.size W w') := Lib.hid fun W => by
    have := isAmong_any y [40, 91] hy W
    rwa [among_opens] at this
  have CC : Hid (∀ W : World, Calls Tryz.prog 77 #[rwV x, .string ⟨#[40, 91]⟩] W fun e w' => e = .returned (.bool (opens x)) ∧ Below W.heap.size W w') := Lib.hid fun W => by
    have := isAmong_any x [40, 91] hx W
    rwa [among_opens] at this
  have hB := h.lt
  obtain ⟨f0, f1, f2, f3⟩ := box4f h
  have HV := Lib.hid (Spk.new (x := x) h)
  unfold set4 bxT at HV
  obtain ⟨k, a, tx, n⟩ := x
  obtain ⟨k', a', tx', n'⟩ := y
  obtain ⟨⟨c0, c1, c2, c3⟩, _⟩ := box4 (show BoxS w B 47 #[.int .u8 (k' : Int), .int .i64 a', .string (strOf tx'), .int .i32 n'] from h)
  dsimp only [rwV] at *
  clear h hx hy
  by_cases h0 : k' = 0
  · have q0 : ((k' : Int) == 0) = true := by rw [h0]; rfl
    rw [spB_0 h0]
    clear h0 CA CB CC
    have HE := Lib.hid (fun V (H : Spk w V B ⟨k, a, tx, n⟩ ⟨k', a', tx', n'⟩) => And.intro H.2.1 H.1)
    generalize strOf tx = S at *
    generalize strOf tx' = S' at *
    go_enter Tryz.func76, Tryz.ntmps76
    go_wp2
    go_ret
    exact ⟨rfl, HE.out _ HV.out⟩
  · have q0 : ((k' : Int) == 0) = false := by simp [h0]
    have q1 : ((k' : Int) != 1) = !decide (k' = 1) := by by_cases h : k' = 1 <;> simp [h]; omega
    rw [spB_n (y := ⟨k', a', tx', n'⟩) h0]
    have HE := Lib.hid (fun V (H : Spk w V B ⟨k, a, tx, n⟩ ⟨k', a', tx', n'⟩) => And.intro H.2.1 H.1)
    have HX := Lib.hid (fun V (H : Spk w V B ⟨k, a, tx, n⟩ ⟨k', a', tx', n'⟩) => And.intro H.x H.y)
    dsimp only
    generalize opens ⟨k, a, tx, n⟩ = ox at *
    generalize opens ⟨k', a', tx', n'⟩ = oy at *
    generalize closes ⟨k, a, tx, n⟩ = cx at *
    generalize decide (k' = 1) = k1 at *
    clear h0
    generalize strOf tx = S at *
    generalize strOf tx' = S' at *
    cases cx <;> cases oy <;> cases k1 <;> cases ox
    all_goals
      go_enter Tryz.func76, Tryz.ntmps76
      go_wp2_with (first
        | (go_at_call 77; (with_reducible refine (CA.out _).mono ?_); rintro e v1 ⟨rfl, b1⟩; have H1 := Lib.hid (HV.out.below b1); clear b1; obtain ⟨⟨x0, x1, x2, x3⟩, ⟨y0, y1, y2, y3⟩⟩ := HX.out _ H1.out)
        | (go_at_call 77; (with_reducible refine (CB.out _).mono ?_); rintro e v2 ⟨rfl, b1⟩; have H2 := Lib.hid (H1.out.below b1); clear b1 x0 x1 x2 x3 y0 y1 y2 y3; obtain ⟨⟨x0, x1, x2, x3⟩, ⟨y0, y1, y2, y3⟩⟩ := HX.out _ H2.out)
        | (go_at_call 77; (with_reducible refine (CC.out _).mono ?_); rintro e v3 ⟨rfl, b1⟩; have H3 := Lib.hid (H2.out.below b1); clear b1 x0 x1 x2 x3 y0 y1 y2 y3))
      go_ret
      first
        | exact ⟨rfl, HE.out _ H3.out⟩
        | exact ⟨rfl, HE.out _ H2.out⟩
        | exact ⟨rfl, HE.out _ H1.out⟩
end Go.Proofs.YtplcmcealeeppaaGreatDoor
/- The builder of texts: what writing into it does. -/
set_option linter.unusedVariables false
set_option linter.unusedSimpArgs false
namespace Go.Proofs.YtplcmcealeeppaaGreatDoor
open Go Go.RowKit L8

theorem bld_size : (Tryz.prog.info? 85).map (·.size) = some 2 := by kernel_rfl
theorem bld_lies : liesAt Tryz.prog Tryz.prog.depth 85 (2 / Tryz.prog.cellsOf 85) 0 85 1 = true := by kernel_rfl
theorem byte_info : (Tryz.prog.info? 5).map (fun i => (i.zero, i.size, i.bytes)) = some (some (.int .u8 0), 1, 1) := by kernel_rfl
/-- A builder that has been written into. -/
def BldU (B b : Nat) (l : Bs) (w : World) : Prop := Lib.BuilderAt 85 5 B b (.pointer (some ⟨b, 0, none⟩)) (Lib.byteCells l) w
def BldI (B b : Nat) (l : Bs) (w : World) : Prop := Lib.IsBuilder 85 5 B b (Lib.byteCells l) w
/-- The boxes of other types stay as they were. -/
def Kb (b : Nat) (w w' : World) : Prop := ∀ k t cs, k ≠ b → t ≠ 5 → BoxS w k t cs → BoxS w' k t cs
theorem kb_grow {b B n : Nat} {w w' : World} {v : Value} {xs : List Value} (hown : w.ownsRow B 5 1 v n xs) (g : w.grownBy w' v.ownBlock) : Kb b w w' := by
  intro k t cs _ ht h
  refine h.kept g (fun e => ?_)
  rcases hown.2 with ⟨rfl, _⟩ | ⟨gg, cap, cur, rfl, _, hgb, _⟩
  · simp [Value.ownBlock] at e
  · obtain rfl : k = gg := by simpa [Value.ownBlock] using e
    unfold BoxS at h
    rw [hgb] at h
    injection h with h
    injection h with _ h2 _
    exact ht h2.symm
theorem kb_set {b j : Nat} {w : World} (v : Value) : Kb b w (w.setCell ⟨b, j, none⟩ v) := fun _ _ _ hk _ h => boxS_other h hk v
theorem kb_t {b : Nat} {x y z : World} (h : Kb b x y) (k : Kb b y z) : Kb b x z := fun q t cs h1 h2 h3 => k q t cs h1 h2 (h q t cs h1 h2 h3)
set_option maxRecDepth 100000 in
theorem check_used (b : Nat) (w : World) (h0 : w.cell? ⟨b, 0, none⟩ = some (.pointer (some ⟨b, 0, none⟩))) :
    Calls Tryz.prog 78 #[.pointer (some ⟨b, 0, none⟩)] w fun e w' => e = .returned (.tuple #[]) ∧ w' = w := by
  obtain ⟨j, hj, _⟩ := Option.map_eq_some_iff.1 bld_size
  go_enter Tryz.func78, Tryz.ntmps78
  go_wp2
  rw [Lib.run_neq_ptr_same w _ Tryz.underlying82 hj]
  go_wp2
  go_end0
  exact ⟨rfl, rfl⟩
set_option maxRecDepth 100000 in
theorem check_fresh (b : Nat) (w : World) (h0 : w.cell? ⟨b, 0, none⟩ = some (.pointer none)) (hsh : w.shape? b = some (85, 2)) (hfz : w.frozen? ⟨b, 0, none⟩ = false) :
    Calls Tryz.prog 78 #[.pointer (some ⟨b, 0, none⟩)] w fun e w' => e = .returned (.tuple #[]) ∧ w' = w.setCell ⟨b, 0, none⟩ (.pointer (some ⟨b, 0, none⟩)) := by
  obtain ⟨j, hj, hjs⟩ := Option.map_eq_some_iff.1 bld_size
  go_enter Tryz.func78, Tryz.ntmps78
  go_wp2
  rw [Lib.run_to_unsafe w ⟨b, 0, none⟩ Tryz.underlying82 Tryz.underlying125 hj (by rw [hjs]; decide) hsh (Nat.zero_lt_succ 1)]
  simp only [Result.andThen]
  rw [Oper.upon_value]
  go_wp2
  rw [run_callFunc_extern Tryz.func100 (by kernel_rfl) (by kernel_rfl) (by kernel_rfl) (e := Extern.AbiNoEscape.same) (by kernel_rfl)]
  rw [Lib.run_noEscape]
  simp only [Result.andThen]
  rw [Oper.upon_value]
  go_wp2
  rw [Lib.run_from_unsafe w ⟨b, 0, none⟩ Tryz.underlying125 Tryz.underlying82 hj hsh bld_lies]
  simp only [Result.andThen]
  rw [Oper.upon_value]
  go_wp2
  go_end0
  exact ⟨rfl, rfl⟩
theorem check_any (B b : Nat) (l : Bs) (w : World) (h : BldI B b l w) :
    Calls Tryz.prog 78 #[.pointer (some ⟨b, 0, none⟩)] w fun e w' => e = .returned (.tuple #[]) ∧ BldU B b l w' ∧ Below B w w' ∧ Kb b w w' := by
  rcases h with h | h
  · exact (check_fresh b w h.cell0 h.shape h.frozen0).mono (by rintro e w' ⟨rfl, rfl⟩; exact ⟨rfl, h.used _, (Below.refl B w).setCell (p := ⟨b, 0, none⟩) h.1 _, kb_set _⟩)
  · exact (check_used b w h.cell0).mono (by rintro e w' ⟨rfl, rfl⟩; exact ⟨rfl, h, Below.refl B _, fun _ _ _ _ _ h => h⟩)
theorem cells_str (l : Bs) : Lib.strCells (strOf l) = Lib.byteCells l := by simp [Lib.strCells, Lib.byteCells, strOf]
theorem byteCells_app (l k : Bs) : Lib.byteCells (l ++ k) = Lib.byteCells l ++ Lib.byteCells k := by simp [Lib.byteCells]
set_option maxRecDepth 100000 in
theorem write_any (B b : Nat) (l s : Bs) (w : World) (h : BldI B b l w) (hlen : l.length + s.length ≤ 1000000) (hBw : B ≤ w.heap.size) :
    Calls Tryz.prog 47 #[.pointer (some ⟨b, 0, none⟩), .string (strOf s)] w fun e w' => e = .returned (.tuple #[.int .i64 (s.length : Int), .nilIface]) ∧ BldU B b (l ++ s) w' ∧ Below B w w' ∧ Kb b w w' := by
  obtain ⟨i0, hi, hz0, hz1, hz2⟩ := info_parts byte_info
  have hsz := size_strOf s
  have hbl := Lib.byteCells_length l
  go_enter Tryz.func47, Tryz.ntmps47
  go_wp2_with (go_at_call 78; refine (check_any B b l _ h).mono ?_)
  rintro e w1 ⟨rfl, h1, hb1, kb1⟩
  obtain ⟨hB, v, hbk, hown, hne⟩ := h1
  have c0 : w1.cell? ⟨b, 0, none⟩ = some (.pointer (some ⟨b, 0, none⟩)) := by rw [Lib.cell_of_heap hbk]; rfl
  have c1 : w1.cell? ⟨b, 1, none⟩ = some v := by rw [Lib.cell_of_heap hbk]; rfl
  go_wp2_with (at_builtin; refine Lib.wpList_append_own_string _ rfl _ _ 83 9 rfl B 5 i0 Tryz.underlying83 Tryz.underlying9 hi hz0 hz1 hz2 _ _ _ rfl hown (strOf s) rfl ?c3 ?c4 ?c5 ?_)
  case c3 => unfold maxLen; omega
  case c4 => omega
  case c5 => have := hb1.size; omega
  intro v' w2 hown' hgrow _
  have hlt : b < w1.heap.size := (Array.getElem?_eq_some_iff.1 hbk).1
  have hb2 : w2.heap[b]? = some (.cells #[.pointer (some ⟨b, 0, none⟩), v] 85 (0, 0)) := (hgrow.block b hlt (fun e => hne e.symm)).trans hbk
  have d0 : w2.cell? ⟨b, 0, none⟩ = some (.pointer (some ⟨b, 0, none⟩)) := by rw [Lib.cell_of_heap hb2]; rfl
  have d1 : w2.cell? ⟨b, 1, none⟩ = some v := by rw [Lib.cell_of_heap hb2]; rfl
  have f1 : w2.frozen? ⟨b, 1, none⟩ = false := Lib.frozen_of_heap hb2 1
  obtain ⟨ao, n', cap, rfl⟩ : ∃ ao n' cap, v' = .slice ao n' cap := by
    rcases hown'.2 with ⟨hv, _⟩ | ⟨g, cap, cur, hv, _⟩
    · exact ⟨_, _, _, hv⟩
    · exact ⟨_, _, _, hv⟩
  rw [cells_str, ← byteCells_app] at hown'
  have HKb := Lib.hid (kb_t kb1 (kb_grow (b := b) hown hgrow))
  have HO := Lib.hid hown'
  have HG := Lib.hid hgrow
  clear hown' hgrow kb1
  go_wp2
  go_ret2
  refine ⟨rfl, ?_, ?_, kb_t HKb.out (kb_set _)⟩
  · exact Lib.BuilderAt.put (T := 85) (e := 5) hB hb2 (bs' := Lib.byteCells (l ++ s)) (by have := HO.out; rw [Lib.byteCells_length, List.length_append]; exact this) (by decide)
  · exact (hb1.grown HG.out (by have := hb1.size; omega) (fun k hk => (hown.lt k hk).1)).setCell (p := ⟨b, 1, none⟩) hB _
theorem bldI_keep {B b : Nat} {l : Bs} {w w' : World} (h : BldI B b l w) (k : Below w.heap.size w w') : BldI B b l w' := by
  have key : ∀ p, Lib.BuilderAt 85 5 B b p (Lib.byteCells l) w → Lib.BuilderAt 85 5 B b p (Lib.byteCells l) w' := by
    rintro p ⟨hB, v, hb, ho, hn⟩
    exact ⟨hB, v, (k.block b (Array.getElem?_eq_some_iff.1 hb).1).trans hb, own_keepB ho k, hn⟩
  exact h.imp (key _) (key _)
set_option maxRecDepth 100000 in
theorem writeByte_any (B b : Nat) (l : Bs) (w : World) (h : BldI B b l w) (hlen : l.length + 1 ≤ 1000000) (hBw : B ≤ w.heap.size) :
    Calls Tryz.prog 46 #[.pointer (some ⟨b, 0, none⟩), .int .u8 32] w fun e w' => e = .returned .nilIface ∧ BldU B b (l ++ [32]) w' ∧ Below B w w' ∧ Kb b w w' := by
  obtain ⟨i0, hi, hz0, hz1, hz2⟩ := info_parts byte_info
  have hbl := Lib.byteCells_length l
  go_enter Tryz.func46, Tryz.ntmps46
  go_wp2_with (go_at_call 78; refine (check_any B b l _ h).mono ?_)
  rintro e w1 ⟨rfl, h1, hb1, kb1⟩
  obtain ⟨hB, v, hbk, hown, hne⟩ := h1
  have c0 : w1.cell? ⟨b, 0, none⟩ = some (.pointer (some ⟨b, 0, none⟩)) := by rw [Lib.cell_of_heap hbk]; rfl
  have c1 : w1.cell? ⟨b, 1, none⟩ = some v := by rw [Lib.cell_of_heap hbk]; rfl
  have hlt : b < w1.heap.size := (Array.getElem?_eq_some_iff.1 hbk).1
  have hown1 := World.ownsRow.alloc hown (.cells #[.int .u8 32] 5)
  have hbk1 : (w1.alloc (.cells #[.int .u8 32] 5)).heap[b]? = some (.cells #[.pointer (some ⟨b, 0, none⟩), v] 85 (0, 0)) := (Below.heap_alloc _ _ b hlt).trans hbk
  have hcell : ∀ j u, ([Value.int .u8 32] : List Value)[j]? = some u → (w1.alloc (.cells #[.int .u8 32] 5)).cell? ((⟨w1.heap.size, 0, none⟩ : Addr).add j) = some u := by
    intro j u hj
    match j, hj with
    | 0, hj =>
      injection hj with hj
      subst hj
      exact ((boxS_new w1 5 #[.int .u8 32]).cell 0).trans rfl
  have HC := Lib.hid hcell
  have HO1 := Lib.hid hown1
  have HB1 := Lib.hid hbk1
  have HN := Lib.hid hne
  have hBl := hb1.size
  clear hcell hown1 hbk1 hne hown hbk
  go_wp2_with (at_builtin; refine wpList_append_own _ rfl (.tmp 11) (.tmp 13) 83 rfl B 5 i0 (.int .u8 0) 1 1 Tryz.underlying83 hi hz0 hz1 hz2 rfl (by omega) _ _ _ rfl HO1.out ⟨w1.heap.size, 0, none⟩ 1 1 [.int .u8 32] rfl rfl HC.out (by intro u hu; rw [List.mem_singleton.1 hu]; rfl) ?c3 ?c4 ?c5 ?_)
  case c3 => unfold maxLen; omega
  case c4 => omega
  case c5 => simp; omega
  intro v' w2 hown' hgrow _
  have hb2 : w2.heap[b]? = some (.cells #[.pointer (some ⟨b, 0, none⟩), v] 85 (0, 0)) := (hgrow.block b (by simp; omega) (fun e => HN.out e.symm)).trans HB1.out
  have d0 : w2.cell? ⟨b, 0, none⟩ = some (.pointer (some ⟨b, 0, none⟩)) := by rw [Lib.cell_of_heap hb2]; rfl
  have d1 : w2.cell? ⟨b, 1, none⟩ = some v := by rw [Lib.cell_of_heap hb2]; rfl
  have f1 : w2.frozen? ⟨b, 1, none⟩ = false := Lib.frozen_of_heap hb2 1
  obtain ⟨ao, n', cap, rfl⟩ : ∃ ao n' cap, v' = .slice ao n' cap := by
    rcases hown'.2 with ⟨hv, _⟩ | ⟨g, cap, cur, hv, _⟩
    · exact ⟨_, _, _, hv⟩
    · exact ⟨_, _, _, hv⟩
  have e32 : Lib.byteCells l ++ [Value.int .u8 32] = Lib.byteCells (l ++ [32]) := by rw [byteCells_app]; rfl
  rw [e32] at hown'
  have HKb := Lib.hid (kb_t (kb_t kb1 (fun _ _ _ _ _ h => BoxS.alloc h _)) (kb_grow (b := b) HO1.out hgrow))
  have HO := Lib.hid hown'
  have HG := Lib.hid hgrow
  clear hown' hgrow e32 kb1
  go_wp2
  go_ret
  refine ⟨rfl, ?_, ?_, kb_t HKb.out (kb_set _)⟩
  · exact Lib.BuilderAt.put (T := 85) (e := 5) hB hb2 (bs' := Lib.byteCells (l ++ [32])) (by have := HO.out; rw [Lib.byteCells_length, List.length_append]; simpa [hbl] using this) (by decide)
  · exact ((hb1.alloc (by omega) _).grown HG.out (by simp; omega) (fun k hk => (HO1.out.lt k hk).1)).setCell (p := ⟨b, 1, none⟩) hB _
end Go.Proofs.YtplcmcealeeppaaGreatDoor
/- The reference: which tokens are near, and equal lists of tokens. -/
set_option linter.unusedVariables false
set_option linter.unusedSimpArgs false
namespace Go.Proofs.YtplcmcealeeppaaGreatDoor
open Go Go.RowKit L8

theorem eq_lit (l k : Bs) : ((strOf l).toList == k) = decide (l = k) := by
  rw [toList_strOf]; by_cases h : l = k <;> simp [h]
theorem kind_is (k m : Nat) : ((k : Int) == (m : Int)) = decide (k = m) := by by_cases h : k = m <;> simp [h] <;> omega
theorem near_as (a b : Tk) {B5 b40 b91 A1 A5 a40 a91 b44 b59 b58 b41 b93 : Bool} (h1 : decide (b.k = 5) = B5) (h2 : decide (b.tx = [40]) = b40) (h3 : decide (b.tx = [91]) = b91) (h4 : decide (a.k = 1) = A1) (h5 : decide (a.k = 5) = A5) (h6 : decide (a.tx = [40]) = a40) (h7 : decide (a.tx = [91]) = a91)
    (h8 : decide (b.tx = [44]) = b44) (h9 : decide (b.tx = [59]) = b59) (h10 : decide (b.tx = [58]) = b58) (h11 : decide (b.tx = [41]) = b41) (h12 : decide (b.tx = [93]) = b93) :
    near a b = (((B5 && (b40 || b91)) && A1) || (A5 && (a40 || a91)) || (B5 && (b44 || b59 || b58 || b41 || b93))) := by
  unfold near opens closes
  rw [h1, h2, h3, h4, h5, h6, h7, h8, h9, h10, h11, h12]
end Go.Proofs.YtplcmcealeeppaaGreatDoor
/- The reference: the text of tokens. -/
set_option linter.unusedVariables false
set_option linter.unusedSimpArgs false
namespace Go.Proofs.YtplcmcealeeppaaGreatDoor
open Go Go.RowKit L8

def GivesX (w : World) (l : List Tk) (e : Ending) (w' : World) : Prop := e = .returned (.tuple #[.string (strOf (text l).1), .int .i64 (text l).2]) ∧ Below w.heap.size w w'
theorem text_arg {l : List Tk} {k : Nat} (h : k < l.length) (hm : may (l.getD k r0) = false) : text l = ([], 2) := by
  unfold text
  rw [if_neg]
  intro ha
  rw [List.all_eq_true] at ha
  rw [ha _ (getD_mem h)] at hm
  cases hm
theorem all_of {l : List Tk} (h : ∀ j, j < l.length → may (l.getD j r0) = true) : l.all may = true := by
  rw [List.all_eq_true]
  intro x hx
  obtain ⟨i, hi, rfl⟩ := List.getElem_of_mem hx
  have := h i hi
  rwa [List.getD_eq_getElem?_getD, List.getElem?_eq_getElem hi] at this
theorem text_long {l : List Tk} (h : l.all may = true) (hl : 256 < (textT l).length) : text l = ([], 3) := by
  unfold text; rw [if_pos h, if_neg (by omega)]
theorem text_ok {l : List Tk} (h : l.all may = true) (hl : (textT l).length ≤ 256) : text l = (textT l, 0) := by
  unfold text; rw [if_pos h, if_pos hl]
theorem rwV_eq (t : Tk) : rwV t = .agg #[.int .u8 (t.k : Int), .int .i64 t.a, .string (strOf t.tx), .int .i32 t.n] := rfl
theorem may_byte {t : Tk} (h : may t = true) : t.k = 4 → 0 ≤ t.n ∧ t.n ≤ 255 := by
  intro hk
  obtain ⟨_, _, hp⟩ := may_parts h
  rcases hp with h | h | h | h | h
  all_goals first | omega | exact ⟨h.2.2.1, h.2.2.2⟩
theorem one_le {t : Tk} (h : may t = true) (hx : OKx t) : (one t).length ≤ 60 := by
  have hk : ∀ s ∈ keys, s.length ≤ 20 := by decide
  have hs : ∀ s ∈ syms, s.length ≤ 20 := by decide
  obtain ⟨_, _, hp⟩ := may_parts h
  have e : t.tx.length ≤ 40 := by
    rcases hp with ⟨h1, h2, _⟩ | ⟨h1, h2, _⟩ | ⟨h1, h2⟩ | ⟨h1, h2, _⟩ | ⟨h1, h2, _⟩
    · unfold isName at h2
      simp only [Bool.and_eq_true, decide_eq_true_eq] at h2
      omega
    · have := hk _ (isKey_mem h2); omega
    · rw [h2]; simp
    · rw [h2]; simp
    · have := hs _ (isSym_mem h2); omega
  unfold one
  split
  · have := (text_len t.n (decide (t.n < 0)) hx.2.2.1 hx.2.2.2).2; omega
  · split
    · have := (shown_len t.n).2; simp only [List.length_cons, List.length_append, List.length_nil]; omega
    · omega
theorem text_first {l : List Tk} {k : Nat} (hk : k = 0) (h : k < l.length) : textT (l.take (k + 1)) = textT (l.take k) ++ one (l.getD k r0) := by
  subst hk
  rw [textT_one (x := l.getD 0 r0) (by rw [List.getD_eq_getElem?_getD, List.getElem?_eq_getElem h]; rfl)]
  simp [textT]
end Go.Proofs.YtplcmcealeeppaaGreatDoor
