/- The program: the tokens of a line. -/
import Derived.Laws.BytesString
import Derived.Test.YtbkbhlbfkfnljaaGreatDoorM06
import Derived.Test.YtbkbhlbfkfnljaaGreatDoorM01
import Derived.Test.YtbkbhlbfkfnljaaGreatDoorLxe
import Derived.Test.YtbkbhlbfkfnljaaGreatDoorM03
set_option linter.unusedVariables false
set_option linter.unusedSimpArgs false
set_option linter.unusedVariables false
set_option linter.unusedSimpArgs false
namespace Go.Proofs.YtbkbhlbfkfnljaaGreatDoor
open Go Go.RowKit L8

theorem toks_skip : ∀ (m : Nat) (s : Bs) (p : Nat), m ≤ s.length → (∀ j, j < m → s.getD j 0 = 32) → toks s p = toks (s.drop m) (p + m) := by
  intro m
  induction m with
  | zero => intro s p _ _; rfl
  | succ m ih =>
    intro s p hl h
    cases s with
    | nil => simp at hl
    | cons c r =>
      have hc : c = 32 := h 0 (by omega)
      rw [hc, toks_sp, List.drop_succ_cons, ih r (p + 1) (by simpa using hl) (fun j hj => h (j + 1) (by omega)), show p + 1 + m = p + (m + 1) by omega]
theorem toks_skip' {s : Bs} {p q : Nat} (h1 : p ≤ q) (h2 : q ≤ s.length) (h : ∀ j, p ≤ j → j < q → s.getD j 0 = 32) : toks (s.drop p) p = toks (s.drop q) q := by
  have := toks_skip (q - p) (s.drop p) p (by rw [List.length_drop]; omega) (fun j hj => by
    have h3 := h (p + j) (by omega) (by omega)
    simpa using h3)
  rw [this, List.drop_drop, show p + (q - p) = q by omega]
def Skip2 (w : World) (b : Nat) (L : Bs) (p : Nat) (e : Ending) (w' : World) : Prop :=
  (∃ q c r, p ≤ q ∧ q < L.length ∧ L.drop q = c :: r ∧ c ≠ 32 ∧ toks (L.drop p) p = toks (c :: r) q ∧ e = .returned (.bool true) ∧ ReadR w w' b L q) ∨
  (toks (L.drop p) p = .ok [] ∧ e = .returned (.bool false) ∧ w.grownBy w' (some b))
theorem skip_two {b p : Nat} {L : Bs} {w : World} (h : Rd w b L p) (hL : L.length ≤ 256) (hp : p ≤ L.length) : Calls Tryz.prog 28 #[.pointer (some ⟨b, 0, none⟩)] w (Skip2 w b L p) :=
  (skip_any h hL hp).mono fun e w' ⟨q, h1, h2, h3, h4, h5, h6⟩ => by
    have ht := toks_skip' h1 h2 h3
    by_cases hq : q < L.length
    · left
      have hd : L.drop q = L[q] :: L.drop (q + 1) := List.drop_eq_getElem_cons hq
      have hg : L.getD q 0 = L[q] := by simp [hq]
      refine ⟨q, L[q], L.drop (q + 1), h1, hq, hd, by rw [← hg]; exact h4 hq, by rw [ht, hd], by rw [h5, decide_eq_true hq], h6⟩
    · right
      refine ⟨by rw [ht, List.drop_eq_nil_iff.2 (by omega), toks_nil], by rw [h5, decide_eq_false hq], h6.2⟩
theorem read_any {b p : Nat} {L r : Bs} {c : UInt8} {w : World} (h : Rd w b L p) (ht : W1.Tab w) (hL : L.length ≤ 256) (hc : L.drop p = c :: r) : Calls Tryz.prog (pickF c) #[.pointer (some ⟨b, 0, none⟩)] w (RdR (L8.token (c :: r)) L p b w) := by
  rcases token_cases c with h1 | ⟨h1, h2⟩ | rfl | rfl | ⟨h1, h2, h3, h4⟩
  · rw [pick_1 h1]; exact readWord_any h ht hL hc h1
  · rw [pick_2 h1 h2]; exact readDecimal_any h ht hL hc h1 h2
  · rw [pick_3]; exact readHex_any h ht hL hc
  · rw [pick_4]; exact readCharacter_any h ht hL hc
  · rw [pick_5 h1 h2 h3 h4]; exact readSymbol_any h ht hL hc h1 h2 h3 h4
theorem pick_enter (c : UInt8) (args : Array Value) (W : World) : (callFunc (pickF c) args).run Tryz.prog W = .ok (.enter (pickF c) args) W := by
  rcases token_cases c with h1 | ⟨h1, h2⟩ | rfl | rfl | ⟨h1, h2, h3, h4⟩
  · rw [pick_1 h1]; exact enters_of Tryz.func43 (by kernel_rfl) rfl args W
  · rw [pick_2 h1 h2]; exact enters_of Tryz.func45 (by kernel_rfl) rfl args W
  · rw [pick_3]; exact enters_of Tryz.func46 (by kernel_rfl) rfl args W
  · rw [pick_4]; exact enters_of Tryz.func47 (by kernel_rfl) rfl args W
  · rw [pick_5 h1 h2 h3 h4]; exact enters_of Tryz.func48 (by kernel_rfl) rfl args W
theorem OwnR.keepG {w w' : World} {e : TypeId} {B n c b : Nat} {A : Option Addr} {rs : List Tk} (h : OwnR w e B A n c rs) (g : w.grownBy w' (some b)) (hb : b < B) : OwnR w' e B A n c rs := by
  refine World.ownsRow.kept h g ?_
  cases A with
  | none => simp [Value.ownBlock]
  | some ad =>
    have := (owned_ge h ad rfl).1
    simp [Value.ownBlock]
    omega
theorem rd_grow {w w' : World} {e : TypeId} {B n c b p : Nat} {A : Option Addr} {rs : List Tk} {L : Bs} (h : OwnR w e B A n c rs) (g : w.grownBy w' (Value.slice A n c).ownBlock) (hb : b < B) (R : Rd w b L p) : Rd w' b L p := by
  refine BoxS.kept R g ?_
  cases A with
  | none => simp [Value.ownBlock]
  | some ad =>
    have := (owned_ge h ad rfl).1
    simp [Value.ownBlock]
    omega
/-- What is known at the head of a round. -/
def TokI (w wr : World) (s : Bs) (p : Nat) (A : Option Addr) (m c2 : Nat) : Prop :=
  Below w.heap.size w wr ∧ Rd wr w.heap.size s p ∧ ∃ out, OwnR wr 39 (w.heap.size + 1) A m c2 out ∧ toks s 0 = addT out (toks (s.drop p) p)
theorem TokI.turn {w X Y : World} {s : Bs} {p q m c2 : Nat} {A : Option Addr} (h : TokI w X s p A m c2) (k : ReadR X Y w.heap.size s q) (ht : toks (s.drop p) p = toks (s.drop q) q) : TokI w Y s q A m c2 := by
  obtain ⟨h1, h2, out, h3, h4⟩ := h
  exact ⟨h1.trans (below_g k.2 (Nat.le_refl _) h1.size), k.1, out, h3.keepG k.2 (by omega), by rw [h4, ht]⟩
theorem TokI.below {w X Y : World} {s : Bs} {p m c2 : Nat} {A : Option Addr} (h : TokI w X s p A m c2) (k : Below X.heap.size X Y) : TokI w Y s p A m c2 := by
  obtain ⟨h1, h2, out, h3, h4⟩ := h
  exact ⟨blw h1 k, h2.below k, out, h3.keep k, h4⟩
theorem TokI.tab {w X : World} {s : Bs} {p m c2 : Nat} {A : Option Addr} (h : TokI w X s p A m c2) (ht : W1.Tab w) : W1.Tab X := ht.below h.1
theorem TokI.err {w X : World} {s r : Bs} {c : UInt8} {p m c2 : Nat} {A : Option Addr} (h : TokI w X s p A m c2) (hd : s.drop p = c :: r) (hc : c ≠ 32) (ht : L8.token (c :: r) = none) : toks s 0 = .error p := by
  obtain ⟨h1, h2, out, h3, h4⟩ := h
  rw [h4, hd, toks_bad hc ht]
  rfl
/-- What is known of a token that has been read, not yet appended. -/
def TokR (w X : World) (s : Bs) (p : Nat) (A : Option Addr) (m c2 : Nat) (x : Tk) : Prop :=
  Below w.heap.size w X ∧ Rd X w.heap.size s p ∧ ∃ out, OwnR X 39 (w.heap.size + 1) A m c2 out ∧ toks s 0 = addT (out ++ [x]) (toks (s.drop p) p)
theorem TokI.got {w X Y : World} {s r tx : Bs} {c : UInt8} {p m c2 k n : Nat} {v : Int} {A : Option Addr} (h : TokI w X s p A m c2) (hd : s.drop p = c :: r) (hc : c ≠ 32) (ht : L8.token (c :: r) = some (k, tx, v, n)) (g : X.grownBy Y (some w.heap.size)) (R : Rd Y w.heap.size s (p + n)) : TokR w Y s (p + n) A m c2 ⟨k, (p : Int), tx, v⟩ := by
  obtain ⟨h1, h2, out, h3, h4⟩ := h
  refine ⟨h1.trans (below_g g (Nat.le_refl _) h1.size), R, out, h3.keepG g (by omega), ?_⟩
  rw [h4, hd, toks_tok hc ht, ← hd, List.drop_drop]
  exact addT_snoc out _ _
theorem TokR.below {w X Y : World} {s : Bs} {p m c2 : Nat} {A : Option Addr} {x : Tk} (h : TokR w X s p A m c2 x) (k : Below X.heap.size X Y) : TokR w Y s p A m c2 x := by
  obtain ⟨h1, h2, out, h3, h4⟩ := h
  exact ⟨blw h1 k, h2.below k, out, h3.keep k, h4⟩
/-- The token appended. -/
theorem TokR.app {w X Y : World} {s : Bs} {p m c2 c3 : Nat} {A A3 : Option Addr} {x : Tk} {out : List Tk} (h1 : Below w.heap.size w X) (h2 : Rd X w.heap.size s p) (h3 : OwnR X 39 (w.heap.size + 1) A m c2 out) (h4 : toks s 0 = addT (out ++ [x]) (toks (s.drop p) p))
    (o : OwnR Y 39 (w.heap.size + 1) A3 (m + 1) c3 (out ++ [x])) (g : X.grownBy Y (Value.slice A m c2).ownBlock) : TokI w Y s p A3 (m + 1) c3 :=
  ⟨bgrow h1 h3 (Nat.le_succ _) g, rd_grow h3 g (by omega) h2, _, o, h4⟩
theorem TokI.done {w X : World} {s : Bs} {p m c2 : Nat} {A : Option Addr} (h : TokI w X s p A m c2) (h2 : toks (s.drop p) p = .ok []) {Y : World} (k : X.grownBy Y (some w.heap.size)) (hl : ¬ 256 < s.length) : GivesT w s (.returned (.tuple #[.slice A m c2, .int .i64 0, .int .i64 0])) Y := by
  obtain ⟨h1, _, out, h3, h4⟩ := h
  rw [h2] at h4
  have ht : toks s 0 = .ok out := by rw [h4]; simp [addT]
  have hm := h3.len
  unfold GivesT
  rw [tokens_ok hl ht]
  dsimp only
  rw [hm]
  exact ⟨A, c2, rfl, (h3.keepG k (by omega)).base (by omega), h1.trans (below_g k (Nat.le_refl _) h1.size)⟩
set_option maxRecDepth 100000 in
set_option maxHeartbeats 16000000 in
theorem Tokens_any (s : Bs) (hl : s.length ≤ maxLen) (w : World) (ht : W1.Tab w) : Calls Tryz.prog 8 #[.string (strOf s)] w (GivesT w s) := by
  have hsz := size_strOf s
  obtain ⟨N, hN⟩ : ∃ N, s.length = N := ⟨_, rfl⟩
  rw [hN] at hsz hl
  unfold maxLen at hl
  by_cases h256 : (256 : Int) < (N : Int)
  · have HE := Lib.hid (givesT_err (w := w) (tokens_long (s := s) (by omega)) (b0 w))
    clear hN
    go_enter Tryz.func8, Tryz.ntmps8
    go_wp2
    go_ret3
    exact HE.out
  · have HErr := Lib.hid (fun (p : Nat) (w' : World) (h : toks s 0 = .error p) (b : Below w.heap.size w w') => givesT_err (w := w) (w' := w') (tokens_err (s := s) (by omega) h) b)
    have HOk := Lib.hid (fun (l : List Tk) (h : toks s 0 = .ok l) => tokens_ok (s := s) (by omega) h)
    have HN := Lib.hid hN
    have HT := Lib.hid ht
    have HI : Hid (TokI w (w.alloc (.cells #[.string (strOf s), .int .i64 0] 75)) s 0 none 0 0) := Lib.hid ⟨bal (b0 w) _, boxS_new w _ _, [], ownR_nil _ _ _, by rw [List.drop_zero]; cases toks s 0 <;> rfl⟩
    have hN2 : N ≤ 256 := by omega
    have hN3 : (N : Int) ≤ 256 := by omega
    clear hN hl ht
    go_enter Tryz.func8, Tryz.ntmps8
    go_wp2
    generalize w.alloc (.cells #[.string (strOf s), .int .i64 0] 75) = V at *
    go_loopg [2] N (fun g v wr => ∃ p m c2 : Nat, ∃ A, p ≤ N ∧ m ≤ p ∧ g = N - p ∧ v = .slice A m c2 ∧ Hid (TokI w wr s p A m c2))
    case atStart => exact ⟨0, 0, 0, none, Nat.zero_le _, Nat.le_refl _, rfl, rfl, HI⟩
    case round =>
      obtain ⟨p, m, c2, A, hp, hmp, rfl, rfl, H⟩ := hrel
      have CS := Lib.hid (skip_two H.out.2.1 (by have := HN.out; omega) (by have := HN.out; omega))
      go_wp2_with fail
      refine (CS.out).mono ?_
      rintro e v1 (⟨q, c, r, hq1, hq2, hd, hc, htk, rfl, hr⟩ | ⟨htk, rfl, hg⟩)
      · have hqN : q < N := by have := HN.out; omega
        have H1 := Lib.hid (H.out.turn hr (by rw [htk, hd]))
        obtain ⟨c0, c1, f1, hb⟩ := hr.1.cells
        have hL2 : s.length ≤ 256 := by have := HN.out; omega
        have CC := Lib.hid (chosen_any hr.1 hL2 hd)
        have CRd := Lib.hid (fun (X : World) (h : TokI w X s q A m c2) => read_any h.2.1 (h.tab HT.out) hL2 hd)
        have hent := fun args W => pick_enter c args W
        have hq0 : (0 : Int) ≤ (q : Int) := by omega
        have hq1' : (q : Int) ≤ 256 := by omega
        clear H hr CS htk
        generalize pickF c = F at *
        cases htok : L8.token (c :: r) with
        | none =>
          rw [htok] at CRd
          have HE := Lib.hid (fun (X Y : World) (h : TokI w X s q A m c2) (b : Below w.heap.size w Y) => HErr.out q Y (h.err hd hc htok) b)
          have CR2 : Hid (∀ X, TokI w X s q A m c2 → Calls Tryz.prog F #[.pointer (some ⟨w.heap.size, 0, none⟩)] X fun e w' => X.grownBy w' (some w.heap.size) ∧ ∃ (k : Nat) (tx : ByteArray) (v : Int), e = .returned (.tuple #[.agg #[.int .u8 (k : Int), .int .i64 0, .string tx, .int .i32 v], .bool false])) := Lib.hid CRd.out
          clear htok CRd hd hc
          generalize GivesT w s = G at *
          go_wp2_with (first
            | (go_at_call 29; (with_reducible refine (CC.out).mono ?_); rintro e v2 ⟨rfl, b2⟩; have H2 := Lib.hid (H1.out.below b2); clear b2)
            | ((with_reducible refine (CR2.out _ H2.out).mono ?_); rintro e v3 ⟨g3, k, tx, v, rfl⟩; have H3 := Lib.hid (H2.out.1.trans (below_g g3 (Nat.le_refl _) H2.out.1.size)); clear g3))
          exact HE.out _ _ H2.out (H3.out.alloc H3.out.size _)
        | some y =>
          obtain ⟨k, tx, v, n⟩ := y
          have hln := token_len htok
          have hrl := drop_len hd
          rw [HN.out] at hrl
          rw [List.length_cons] at hln
          have hx : OKx ⟨k, (q : Int), tx, v⟩ := by
            obtain ⟨g1, g2⟩ := token_may htok
            exact may_okx (g1 (q : Int) (by omega) (by omega)) g2
          have CR2 : Hid (∀ X, TokI w X s q A m c2 → Calls Tryz.prog F #[.pointer (some ⟨w.heap.size, 0, none⟩)] X fun e w' => e = .returned (.tuple #[.agg #[.int .u8 (k : Int), .int .i64 0, .string (strOf tx), .int .i32 v], .bool true]) ∧ TokR w w' s (q + n) A m c2 ⟨k, (q : Int), tx, v⟩) := Lib.hid fun X h => (CRd.out X h).mono fun e w' g => by
            rw [htok] at g
            exact ⟨g.2.1, h.got hd hc htok g.1 g.2.2⟩
          have r1 : ∀ W : World, RR ((W.alloc (.cells #[.int .u8 (k : Int), .int .i64 (q : Int), .string (strOf tx), .int .i32 v] 39)).alloc (.cells #[.int .u8 (k : Int), .int .i64 (q : Int), .string (strOf tx), .int .i32 v] 39)) (some ⟨W.heap.size + 1, 0, none⟩) 1 [⟨k, (q : Int), tx, v⟩] := fun W => by
            have h := rr_one (w := (W.alloc (.cells #[.int .u8 (k : Int), .int .i64 (q : Int), .string (strOf tx), .int .i32 v] 39)).alloc (.cells #[.int .u8 (k : Int), .int .i64 (q : Int), .string (strOf tx), .int .i32 v] 39)) (e := 39) (q := (W.alloc (.cells #[.int .u8 (k : Int), .int .i64 (q : Int), .string (strOf tx), .int .i32 v] 39)).heap.size) (x := ⟨k, (q : Int), tx, v⟩) hx (boxS_new _ _ _)
            rw [World.size_alloc] at h
            exact h
          have R1 := Lib.hid r1
          have hqn : q + n ≤ N := by omega
          have hn1 : 1 ≤ n := hln.1
          clear htok CRd hd hc hx r1 hln hrl
          generalize strOf tx = S2 at *
          go_wp2_with (first
            | (go_at_call 29; (with_reducible refine (CC.out).mono ?_); rintro e v2 ⟨rfl, b2⟩; have H2 := Lib.hid (H1.out.below b2); clear b2)
            | ((with_reducible refine (CR2.out _ H2.out).mono ?_); rintro e v3 ⟨rfl, h3⟩; have H3 := Lib.hid (TokR.below (TokR.below h3 (bal (b0 _) (.cells #[.int .u8 (k : Int), .int .i64 (q : Int), .string S2, .int .i32 v] 39))) (bal (b0 _) (.cells #[.int .u8 (k : Int), .int .i64 (q : Int), .string S2, .int .i32 v] 39))); clear h3; obtain ⟨g1, g2, out, g3, g4⟩ := H3.out; have K := Lib.hid (And.intro g1 (And.intro g2 (And.intro g3 g4))); clear g1 g2 g3 g4)
            | (at_builtin; (refine app_rws rfl (.tmp 34) (.tmp 36) rfl (w.heap.size + 1) m c2 1 1 (m + 1) A (some ⟨v3.heap.size + 1, 0, none⟩) out [⟨k, (q : Int), tx, v⟩] rfl rfl K.out.2.2.1 rfl (R1.out v3) rfl (by omega) (BoxS.lt K.out.2.1) ?_; intro A3 c3 w5 o2 g2; have H5 := Lib.hid (TokR.app K.out.1 K.out.2.1 K.out.2.2.1 K.out.2.2.2 o2 g2); clear o2 g2)))
          go_roundg (N - (q + n))
          case rel => exact ⟨q + n, m + 1, c3, A3, hqn, by omega, rfl, rfl, H5⟩
          case measure => omega
      · have HE := Lib.hid (H.out.done htk hg (by have := HN.out; omega))
        clear H htk hg CS
        generalize GivesT w s = G at *
        go_wp2
        exact HE.out
end Go.Proofs.YtbkbhlbfkfnljaaGreatDoor
/- The reference: how a byte is shown. -/
set_option linter.unusedVariables false
set_option linter.unusedSimpArgs false
namespace Go.Proofs.YtbkbhlbfkfnljaaGreatDoor
open Go Go.RowKit L8

def hexs : Bs := [48, 49, 50, 51, 52, 53, 54, 55, 56, 57, 65, 66, 67, 68, 69, 70]
theorem hex_cut : ∀ a : Fin 16, (hexs.take (a.val + 1)).drop a.val = [hexDg a.val] := by decide
theorem cut_mid32 (l : Bs) (i k : Nat) (h1 : i ≤ k) (h : k ≤ l.length) (W : World) : (Instr.slice 9 (.string (strOf l)) (some (.int .i32 (i : Int))) (some (.int .i32 (k : Int))) none).run Tryz.prog W = .ok (.string (strOf ((l.take k).drop i))) W := by
  have hs := size_strOf l
  rw [run_slice_string W 9 _ .i32 .i32 (i : Int) (k : Int) Tryz.underlying9 (by omega) (by omega) (by rw [hs]; omega), Int.toNat_natCast, Int.toNat_natCast]
  congr 2
  apply ByteArray.ext
  apply Array.ext'
  have h2 : (strOf l).data.toList = l := rfl
  simp only [ByteArray.data_extract, Array.toList_extract, h2]
  simp [strOf, List.extract, List.drop_take]
theorem hex_at (a : Nat) (h : a < 16) (W : World) : (Instr.slice 9 (.string ⟨#[48, 49, 50, 51, 52, 53, 54, 55, 56, 57, 65, 66, 67, 68, 69, 70]⟩) (some (.int .i32 (a : Int))) (some (.int .i32 ((a : Int) + 1))) none).run Tryz.prog W = .ok (.string (strOf [hexDg a])) W := by
  have := cut_mid32 hexs a (a + 1) (by omega) (by have : hexs.length = 16 := rfl; omega) W
  rw [hex_cut ⟨a, h⟩] at this
  exact this
theorem shown_hex {v : Nat} (h1 : v ≠ 13 ∧ v ≠ 10 ∧ v ≠ 9 ∧ v ≠ 39 ∧ v ≠ 42) (h2 : ¬ (32 ≤ v ∧ v ≤ 126)) : shown (v : Int) = [42, 35, hexDg (v / 16), hexDg (v % 16)] := by
  unfold shown
  rw [if_neg (by omega), if_neg (by omega), if_neg (by omega), if_neg (by omega), if_neg (by omega), if_neg (by omega)]
  rfl
theorem shown_self {v : Nat} (h1 : v ≠ 13 ∧ v ≠ 10 ∧ v ≠ 9 ∧ v ≠ 39 ∧ v ≠ 42) (h2 : 32 ≤ v ∧ v ≤ 126) : shown (v : Int) = [UInt8.ofNat v] := by
  unfold shown
  rw [if_neg (by omega), if_neg (by omega), if_neg (by omega), if_neg (by omega), if_neg (by omega), if_pos (by omega)]
  rfl
theorem conv_one (v : Nat) (w : World) : (convert 61 9 (.slice (some ⟨w.heap.size, 0, none⟩) 1 1)).run Tryz.prog (w.alloc (.cells #[.int .u8 (v : Int)] 5)) = .ok (.string (strOf [UInt8.ofNat v])) (w.alloc (.cells #[.int .u8 (v : Int)] 5)) := by
  have hc : (w.alloc (.cells #[.int .u8 (v : Int)] 5)).cell? ⟨w.heap.size, 0, none⟩ = some (.int .u8 (v : Int)) := ((boxS_new w 5 #[.int .u8 (v : Int)]).cell 0).trans rfl
  have hl := run_loadCells_list (P := Tryz.prog) (w.alloc (.cells #[.int .u8 (v : Int)] 5)) ⟨w.heap.size, 0, none⟩ [.int .u8 (v : Int)] (by
    intro j u hj
    match j, hj with
    | 0, hj => injection hj with hj; subst hj; exact hc)
  rw [run_convert_bytes_string _ 61 9 5 _ _ _ Tryz.underlying61 Tryz.underlying5 Tryz.underlying9, run_bytesToString _ _ 1 1 [(v : Int)] hl]
  congr 2
end Go.Proofs.YtbkbhlbfkfnljaaGreatDoor
/- The reference: the text of a token. -/
set_option linter.unusedVariables false
set_option linter.unusedSimpArgs false
namespace Go.Proofs.YtbkbhlbfkfnljaaGreatDoor
open Go Go.RowKit L8

theorem one_num {k : Nat} {a n : Int} {tx : Bs} (h : k = 3) : one ⟨k, a, tx, n⟩ = textL n (decide (n < 0)) := by unfold one; rw [if_pos h]
theorem one_byte {k : Nat} {a n : Int} {tx : Bs} (h : k = 4) : one ⟨k, a, tx, n⟩ = 39 :: (shown n ++ [39]) := by unfold one; dsimp only; rw [if_neg (by omega), if_pos h]
theorem one_text {k : Nat} {a n : Int} {tx : Bs} (h3 : k ≠ 3) (h4 : k ≠ 4) : one ⟨k, a, tx, n⟩ = tx := by unfold one; dsimp only; rw [if_neg h3, if_neg h4]
end Go.Proofs.YtbkbhlbfkfnljaaGreatDoor
