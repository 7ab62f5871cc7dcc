/- Trees that came in. -/
import Derived.Test.YtplcmcealeeppaaGreatDoorM23
import Derived.Test.YtplcmcealeeppaaGreatDoorRows
import Derived.Test.YtplcmcealeeppaaGreatDoorM01
import Derived.Test.YtplcmcealeeppaaGreatDoorM20
import Derived.Test.YtplcmcealeeppaaGreatDoorM22
import Derived.Test.YtplcmcealeeppaaGreatDoorM13
import Derived.Test.YtplcmcealeeppaaGreatDoorM07
set_option linter.unusedVariables false
set_option linter.unusedSimpArgs false
set_option linter.unusedVariables false
set_option linter.unusedSimpArgs false
namespace Go.Proofs.YtplcmcealeeppaaGreatDoor
open Go Go.RowKit Go.ChangeShapes Go.WideShapes Go.Deep Go.ChangeAt L8 L10

theorem list_ofX {P : Nat → It → Prop} (n : Nat) (h : ∀ i, i < n → ∃ x, P i x) : ∃ ls : List It, ls.length = n ∧ ∀ i, i < n → P i (ls.getD i i0) := by
  induction n with
  | zero => exact ⟨[], rfl, fun i hi => absurd hi (by omega)⟩
  | succ n ih =>
    obtain ⟨ls, hl, hp⟩ := ih (fun i hi => h i (by omega))
    obtain ⟨x, hx⟩ := h n (by omega)
    refine ⟨ls ++ [x], by simp [hl], fun i hi => ?_⟩
    by_cases hin : i < n
    · have e : (ls ++ [x]).getD i i0 = ls.getD i i0 := by simp [List.getElem?_append_left (show i < ls.length by omega)]
      rw [e]; exact hp i hin
    · obtain rfl : i = n := by omega
      have e : (ls ++ [x]).getD i i0 = x := by rw [← hl]; simp
      rw [e]; exact hx
theorem bulk_one {H : Type} (d : DataW H) : 1 ≤ Rows.uptoBulk d := by
  cases d with
  | lit l => cases l <;> simp [Rows.uptoBulk]
  | nil => simp [Rows.uptoBulk]
  | ptr d => simp [Rows.uptoBulk]
  | slice elems spare => simp [Rows.uptoBulk]
  | agg parts => simp [Rows.uptoBulk]
  | iface t d => simp [Rows.uptoBulk]
  | map entries => simp [Rows.uptoBulk]
  | held h => simp [Rows.uptoBulk]
theorem bulk_rows {H : Type} : ∀ (zs : List (DataW H × List MemPlace)) (ls : List It), ls.length = zs.length → (∀ i, i < ls.length → ∃ z, zs[i]? = some z ∧ 7 * szE (ls.getD i i0).e ≤ Rows.uptoBulk z.1) → 7 * szL (ls.map It.e) ≤ Rows.uptoBulkAll (zs.map (·.1))
  | [], [], _, _ => by simp [szL, Rows.uptoBulkAll]
  | [], x :: r, h, _ => by simp at h
  | z :: zs, [], h, _ => by simp at h
  | z :: zs, x :: r, h, g => by
    have h0 := g 0 (by simp)
    have ih := bulk_rows zs r (by simpa using h) fun i hi => by have := g (i + 1) (by simpa using hi); simpa using this
    obtain ⟨z', e, hz⟩ := h0
    simp only [List.getElem?_cons_zero, Option.some.injEq] at e
    subst e
    simp only [List.map_cons, szL, Rows.uptoBulkAll]
    have hz' : 7 * szE x.e ≤ Rows.uptoBulk z.1 := by simpa using hz
    omega
section
variable {H : Type} {enc : TypeId × Value → H} {w : World}
theorem u8_wfX {a : Int} (h : (Lit.int .u8 a).wf = true) : 0 ≤ a ∧ a < 256 := by
  simp only [Lit.wf, IntKind.min, IntKind.max, IntKind.signed, IntKind.bits, Bool.and_eq_true, decide_eq_true_eq] at h
  simp at h
  omega
theorem i32_wfX {a : Int} (h : (Lit.int .i32 a).wf = true) : -2147483648 ≤ a ∧ a ≤ 2147483647 := by
  simp only [Lit.wf, IntKind.min, IntKind.max, IntKind.signed, IntKind.bits, Bool.and_eq_true, decide_eq_true_eq] at h
  simp at h
  omega
set_option maxRecDepth 100000 in
theorem open_trees : ∀ fuel : Nat, (∀ (cs : List Value) (x : DataW H × List MemPlace), DataW.trod enc Tryz.prog w 0 (fun _ => true) true fuel 27 cs = some x → ∃ (e : Ex) (A : Option Addr) (c : Nat), cs = itC ⟨e, A, c⟩ ∧ OKe e ∧ TrR w A c e.l ∧ 7 * szE e ≤ Rows.uptoBulk x.1)
    ∧ (∀ (A : Option Addr) (len cap : Nat) (x : DataW H × List MemPlace), DataW.trod enc Tryz.prog w 0 (fun _ => true) true fuel 25 [.slice A len cap] = some x → ∃ l : List Ex, l.length = len ∧ TrR w A cap l ∧ 7 * szL l + 1 ≤ Rows.uptoBulk x.1) := by
  intro fuel
  induction fuel with
  | zero => exact ⟨fun cs x h => by simp [DataW.trod] at h, fun A len cap x h => by simp [DataW.trod] at h⟩
  | succ fuel ih =>
    refine ⟨fun cs x h => ?_, fun A len cap x h => ?_⟩
    · obtain ⟨xs, n, hn, hx, hl, hlen, hf⟩ := DataW.trod_struct Tryz.underlying27 h
      obtain rfl : fuel = n := by omega
      have kl : Tryz.prog.cellsOf 27 = 6 := by kernel_rfl
      have k1 : Tryz.prog.cellsOf 22 = 1 := by kernel_rfl
      have k2 : Tryz.prog.cellsOf 23 = 1 := by kernel_rfl
      have k3 : Tryz.prog.cellsOf 24 = 1 := by kernel_rfl
      have k4 : Tryz.prog.cellsOf 21 = 1 := by kernel_rfl
      have k5 : Tryz.prog.cellsOf 9 = 1 := by kernel_rfl
      have k6 : Tryz.prog.cellsOf 25 = 1 := by kernel_rfl
      rw [kl] at hl
      match cs, hl with
      | [c0, c1, c2, c3, c4, c5], _ =>
        match xs, hlen with
        | [y0, y1, y2, y3, y4, y5], _ =>
          have f0 := hf 0 _ rfl
          have f1 := hf 1 _ rfl
          have f2 := hf 2 _ rfl
          have f3 := hf 3 _ rfl
          have f4 := hf 4 _ rfl
          have f5 := hf 5 _ rfl
          simp [k1, k2, k3, k4, k5, k6] at f0 f1 f2 f3 f4 f5
          obtain ⟨a, e0, _, w0⟩ := DataW.trod_int Tryz.underlying22 f0
          obtain ⟨b, e1, _, w1⟩ := DataW.trod_int Tryz.underlying23 f1
          obtain ⟨c, e2, _, w2⟩ := DataW.trod_int Tryz.underlying24 f2
          obtain ⟨d, e3, _, w3⟩ := DataW.trod_int Tryz.underlying21 f3
          obtain ⟨s, e4, _, w4⟩ := DataW.trod_string Tryz.underlying9 f4
          injection e0 with e0
          injection e1 with e1
          injection e2 with e2
          injection e3 with e3
          injection e4 with e4
          subst e0 e1 e2 e3 e4
          have ha := u8_wfX w0
          have hb := u8_wfX w1
          have hc := u8_wfX w2
          have hd := i32_wfX w3
          obtain ⟨a, rfl⟩ : ∃ k : Nat, a = (k : Int) := ⟨a.toNat, by omega⟩
          obtain ⟨b, rfl⟩ : ∃ k : Nat, b = (k : Int) := ⟨b.toNat, by omega⟩
          obtain ⟨c, rfl⟩ : ∃ k : Nat, c = (k : Int) := ⟨c.toNat, by omega⟩
          have hS : ∃ (A : Option Addr) (len cap : Nat), c5 = .slice A len cap := by
            rcases DataW.trod_slice Tryz.underlying25 f5 with ⟨e, _⟩ | ⟨ad, len, cap, _, _, _, _, e, _⟩
            · injection e with e; exact ⟨_, _, _, e⟩
            · injection e with e; exact ⟨_, _, _, e⟩
          obtain ⟨A, len, cap, rfl⟩ := hS
          obtain ⟨l, hll, R, hbk⟩ := ih.2 A len cap _ f5
          refine ⟨.mk a b c d s.data.toList l, A, cap, ?_, ?_, R, ?_⟩
          · unfold itC
            dsimp only [Ex.k, Ex.o, Ex.t, Ex.n, Ex.s, Ex.l]
            rw [hll, ← str_self s]
          · exact ⟨by show a < 256; omega, by show b < 256; omega, by show c < 256; omega, hd.1, hd.2, by show s.data.toList.length ≤ maxLen; simpa using w4⟩
          · rw [hx]
            simp only [List.map_cons, List.map_nil, Rows.uptoBulk, Rows.uptoBulkAll]
            have h0 := bulk_one y0.1
            have h1 := bulk_one y1.1
            have h2 := bulk_one y2.1
            have h3 := bulk_one y3.1
            have h4 := bulk_one y4.1
            rw [szE]
            omega
    · rcases DataW.trod_slice Tryz.underlying25 h with ⟨e, hx⟩ | ⟨a, l, c, elems, rest, n, hn, e, hx, _, hl, hm, hlen, hi, _, _⟩
      · injection e with e _
        injection e with e1 e2 e3
        subst e1 e2 e3
        exact ⟨[], rfl, TrR.nil w, by rw [hx, szL]; simp [Rows.uptoBulk]⟩
      · obtain rfl : fuel = n := by omega
        injection e with e _
        injection e with e1 e2 e3
        subst e1 e2 e3
        have kl : Tryz.prog.cellsOf 27 = 6 := by kernel_rfl
        obtain ⟨ls, hls, hp⟩ := list_ofX (P := fun i y => OKe y.e ∧ ExAt w (a.add (i * 6)) y.e y.A y.c ∧ TrR w y.A y.c y.e.l ∧ ∃ z, elems[i]? = some z ∧ 7 * szE y.e ≤ Rows.uptoBulk z.1) len (fun i him => by
          have key := hi i him
          rw [List.getElem?_eq_getElem (by omega), kl] at key
          obtain ⟨cs, hc, ht⟩ := Option.bind_eq_some_iff.1 key
          obtain ⟨_, hcl, hat⟩ := World.cells?_some hc
          obtain ⟨y, B, d, rfl, ok, R, hbk⟩ := ih.1 cs _ ht
          refine ⟨⟨y, B, d⟩, ok, ?_, R, ⟨_, List.getElem?_eq_getElem (by omega), hbk⟩⟩
          have hcell : ∀ j, j < 6 → w.cell? ((a.add (i * 6)).add j) = (itC ⟨y, B, d⟩)[j]? := fun j hj => hat j hj
          have h0 := hcell 0 (by omega)
          rw [add_add_, Nat.add_zero] at h0
          have hs : ∀ j, j < 5 → w.cell? ⟨(a.add (i * 6)).block, (a.add (i * 6)).off + (j + 1), none⟩ = (itC ⟨y, B, d⟩)[j + 1]? := fun j hj => by
            have := hcell (j + 1) (by omega)
            rwa [add_succ_] at this
          exact ⟨h0, hs 0 (by omega), hs 1 (by omega), hs 2 (by omega), hs 3 (by omega), hs 4 (by omega)⟩)
        have hg : ∀ j, (ls.map It.e).getD j e0 = (ls.getD j i0).e := map_getD ls
        refine ⟨ls.map It.e, by rw [List.length_map, hls], ?_, ?_⟩
        rotate_left
        · rw [hx]
          simp only [Rows.uptoBulk]
          have key := bulk_rows elems ls (by omega) fun i him => (hp i (by omega)).2.2.2
          omega
        refine .mk (fun j => (ls.getD j i0).A) (fun j => (ls.getD j i0).c) (by rw [List.length_map]; omega) hm (fun j hj => ?_) (fun j hj => ⟨_, rfl, ?_⟩) (fun j hj => ?_)
        all_goals
          rw [List.length_map, hls] at hj
          rw [hg]
        · exact (hp j hj).1
        · exact (hp j hj).2.1
        · exact (hp j hj).2.2.1
end
end Go.Proofs.YtplcmcealeeppaaGreatDoor
/- ExprKnown: what its examples ask of the other functions. -/
set_option linter.unusedVariables false
set_option linter.unusedSimpArgs false
namespace Go.Proofs.YtplcmcealeeppaaGreatDoor
open Go Go.RowKit L8 L10

def xE : Ex := .mk 4 0 0 0 [120] []
def tE : Ex := .mk 3 0 0 1 [] []
def fE : Ex := .mk 3 0 0 0 [] []
def cA : Ex := .mk 2 0 0 97 [] []
def cB : Ex := .mk 2 0 0 98 [] []
def sE : Ex := .mk 7 1 0 0 [] [xE, oE]
def vE : Ex := .mk 5 0 0 0 [118] [iE]
def wE : Ex := .mk 9 0 0 0 [119] []
def nE : Ex := .mk 7 1 0 0 [] [vE, wE]
theorem ok_e (e : Ex) (hk : e.k < 256) (ho : e.o < 256) (ht : e.t < 256) (h0 : -2147483648 ≤ e.n) (h1 : e.n ≤ 2147483647) (hs : e.s.length ≤ 100) : OKe e := ok_sm hk ho ht h0 h1 hs
/-- A tree in the box K, its parts elsewhere. -/
structure PN (V X : World) (e : Ex) (K : Nat) : Prop where
  s : S10 V X
  hK : V.heap.size ≤ K
  ok : OKe e
  b : ∃ A c, BoxS X K 27 (exC e A e.l.length c) ∧ TrN X (fun k => k ≠ K) A c e.l
theorem PN.step {V X Y : World} {e : Ex} {K : Nat} (h : PN V X e K) (b : Below X.heap.size X Y) : PN V Y e K := ⟨h.s.step b, h.hK, h.ok, h.b.elim fun A h => h.elim fun c h => ⟨A, c, h.1.below b, h.2.keep b⟩⟩
theorem PN.leaf {V X : World} {e : Ex} (h : S10 V X) (hl : e.l = []) (ok : OKe e) : PN V (X.alloc (.cells (exC e none 0 0) 27)) e X.heap.size :=
  ⟨h.step (bal (b0 X) _), h.bel.size, ok, none, 0, by rw [hl]; exact boxS_new X _ _, by rw [hl]; exact TrN.nil _ _⟩
theorem PN.new {V X : World} {e : Ex} {A : Option Addr} {c : Nat} (h : S10 V X) (ok : OKe e) (t : TrR X A c e.l) : PN V (X.alloc (.cells (exC e A e.l.length c) 27)) e X.heap.size :=
  ⟨h.step (bal (b0 X) _), h.bel.size, ok, A, c, boxS_new X _ _, (t.toN (N := fun k => k ≠ X.heap.size) (fun k hk => by omega)).keep (bal (b0 X) _)⟩
theorem PN.set {V X : World} {e : Ex} {A : Option Addr} {n c K : Nat} {a b c' d f g : Value} (hV : W1.Tab V ∧ T10 V) (h : S10 V X) (hK : V.heap.size ≤ K) (ok : OKe e) (hb : BoxS X K 27 #[a, b, c', d, f, g]) (R : TrN X (fun k => k ≠ K) A c e.l) (hn : e.l.length = n) :
    PN V (set6 X K (.int .u8 (e.k : Int)) (.int .u8 (e.o : Int)) (.int .u8 (e.t : Int)) (.int .i32 e.n) (.string (strOf e.s)) (.slice A n c)) e K := by
  subst hn
  exact ⟨S10.of hV.1 hV.2 (bset6 h.bel hK _ _ _ _ _ _), hK, ok, A, c, box6_all _ _ _ _ _ _ hb, R.fr (fr_set6 X K _ _ _ _ _ _) (fun k _ hk e => hk e)⟩
theorem TrR.lit {w : World} {q : Nat} {t : TypeId} {l : List It} (h : BoxS w q t (itCs l).toArray) (hl : l.length ≤ 1000) (ok : ∀ j, j < l.length → OKe (l.getD j i0).e) (R : ∀ j, j < l.length → TrR w (l.getD j i0).A (l.getD j i0).c (l.getD j i0).e.l) : TrR w (some ⟨q, 0, none⟩) l.length (l.map It.e) := by
  refine .mk (fun j => (l.getD j i0).A) (fun j => (l.getD j i0).c) (by rw [List.length_map]; exact Nat.le_refl _) (by unfold maxLen; omega) (fun j hj => ?_) (fun j hj => ⟨_, rfl, ?_⟩) (fun j hj => ?_)
  all_goals
    rw [List.length_map] at hj
    rw [map_getD]
  · exact ok j hj
  · have hc : ∀ i, i < 6 → w.cell? ⟨q, j * 6 + i, none⟩ = (itC (l.getD j i0))[i]? := fun i hi => by
      rw [h.cell, List.getElem?_toArray]
      exact itCs_at hj hi
    rw [add_plain, Nat.zero_add]
    exact ⟨hc 0 (by decide), hc 1 (by decide), hc 2 (by decide), hc 3 (by decide), hc 4 (by decide), hc 5 (by decide)⟩
  · exact R j hj
theorem kr1 {V X : World} (h : S10 V X) : Calls Tryz.prog 30 #[.string ⟨#[120, 32, 58, 61]⟩, .agg #[.int .u8 4, .int .u8 0, .int .u8 0, .int .i32 0, .string ⟨#[120]⟩, .slice none 0 0], .int .i64 1] X fun en w' => en = .returned (.bool true) ∧ Below X.heap.size X w' :=
  reads_of h (line := [120, 32, 58, 61]) (by decide) x1 (A := none) (n := 0) (c := 0) (TrR.nil X) rfl (ok_sm (by decide) (by decide) (by decide) (by decide) (by decide) (by decide))
theorem kr2 {V X : World} (h : S10 V X) {q : Nat} (t : TrR X (some ⟨q, 0, none⟩) 1 [oE]) : Calls Tryz.prog 30 #[.string ⟨#[45, 32, 49]⟩, .agg #[.int .u8 6, .int .u8 23, .int .u8 0, .int .i32 0, .string ⟨#[]⟩, .slice (some ⟨q, 0, none⟩) 1 1], .int .i64 2] X fun en w' => en = .returned (.bool true) ∧ Below X.heap.size X w' :=
  reads_of h (line := [45, 32, 49]) (by decide) x2 (n := 1) t rfl (ok_sm (by decide) (by decide) (by decide) (by decide) (by decide) (by decide))
theorem kr3 {V X : World} (h : S10 V X) {q : Nat} (t : TrR X (some ⟨q, 0, none⟩) 1 [aE]) : Calls Tryz.prog 30 #[.string ⟨#[78, 79, 84, 32, 97, 32, 65, 78, 68, 32, 98]⟩, .agg #[.int .u8 6, .int .u8 26, .int .u8 0, .int .i32 0, .string ⟨#[]⟩, .slice (some ⟨q, 0, none⟩) 1 1], .int .i64 2] X fun en w' => en = .returned (.bool true) ∧ Below X.heap.size X w' :=
  reads_of h (line := [78, 79, 84, 32, 97, 32, 65, 78, 68, 32, 98]) (by decide) x3 (n := 1) t rfl (ok_sm (by decide) (by decide) (by decide) (by decide) (by decide) (by decide))
theorem kr4 {V X : World} (h : S10 V X) {q : Nat} (t : TrR X (some ⟨q, 0, none⟩) 1 [sE]) : Calls Tryz.prog 30 #[.string ⟨#[66, 89, 84, 69, 32, 40, 120, 32, 43, 32, 49, 41]⟩, .agg #[.int .u8 8, .int .u8 0, .int .u8 2, .int .i32 0, .string ⟨#[]⟩, .slice (some ⟨q, 0, none⟩) 1 1], .int .i64 6] X fun en w' => en = .returned (.bool true) ∧ Below X.heap.size X w' :=
  reads_of h (line := [66, 89, 84, 69, 32, 40, 120, 32, 43, 32, 49, 41]) (by decide) x4 (n := 1) t rfl (ok_sm (by decide) (by decide) (by decide) (by decide) (by decide) (by decide))
theorem kr5 {V X : World} (h : S10 V X) : Calls Tryz.prog 30 #[.string ⟨#[83, 73, 90, 69, 32, 118, 91, 49, 93]⟩, .agg #[.int .u8 9, .int .u8 0, .int .u8 0, .int .i32 0, .string ⟨#[118]⟩, .slice none 0 0], .int .i64 2] X fun en w' => en = .returned (.bool true) ∧ Below X.heap.size X w' :=
  reads_of h (line := [83, 73, 90, 69, 32, 118, 91, 49, 93]) (by decide) x5 (A := none) (n := 0) (c := 0) (TrR.nil X) rfl (ok_sm (by decide) (by decide) (by decide) (by decide) (by decide) (by decide))
theorem kr6 {V X : World} (h : S10 V X) {q : Nat} (t : TrR X (some ⟨q, 0, none⟩) 2 [tE, fE]) : Calls Tryz.prog 30 #[.string ⟨#[84, 82, 85, 69, 32, 79, 82, 32, 70, 65, 76, 83, 69]⟩, .agg #[.int .u8 7, .int .u8 21, .int .u8 0, .int .i32 0, .string ⟨#[]⟩, .slice (some ⟨q, 0, none⟩) 2 2], .int .i64 3] X fun en w' => en = .returned (.bool true) ∧ Below X.heap.size X w' :=
  reads_of h (line := [84, 82, 85, 69, 32, 79, 82, 32, 70, 65, 76, 83, 69]) (by decide) x6 (n := 2) t rfl (ok_sm (by decide) (by decide) (by decide) (by decide) (by decide) (by decide))
theorem kr7 {V X : World} (h : S10 V X) {q : Nat} (t : TrR X (some ⟨q, 0, none⟩) 2 [cA, cB]) : Calls Tryz.prog 30 #[.string ⟨#[39, 97, 39, 32, 60, 62, 32, 39, 98, 39]⟩, .agg #[.int .u8 7, .int .u8 15, .int .u8 0, .int .i32 0, .string ⟨#[]⟩, .slice (some ⟨q, 0, none⟩) 2 2], .int .i64 3] X fun en w' => en = .returned (.bool true) ∧ Below X.heap.size X w' :=
  reads_of h (line := [39, 97, 39, 32, 60, 62, 32, 39, 98, 39]) (by decide) x7 (n := 2) t rfl (ok_sm (by decide) (by decide) (by decide) (by decide) (by decide) (by decide))
theorem kf1 {V X : World} (h : S10 V X) : Calls Tryz.prog 33 #[.string ⟨#[45]⟩, .int .i64 100] X fun en w' => en = .returned (.bool true) ∧ Below X.heap.size X w' := fails_of h (line := [45]) (by decide) y1
theorem kf2 {V X : World} (h : S10 V X) : Calls Tryz.prog 33 #[.string ⟨#[118, 91, 32, 105]⟩, .int .i64 100] X fun en w' => en = .returned (.bool true) ∧ Below X.heap.size X w' := fails_of h (line := [118, 91, 32, 105]) (by decide) y2
theorem kf3 {V X : World} (h : S10 V X) : Calls Tryz.prog 33 #[.string ⟨#[83, 73, 90, 69, 32, 51]⟩, .int .i64 100] X fun en w' => en = .returned (.bool true) ∧ Below X.heap.size X w' := fails_of h (line := [83, 73, 90, 69, 32, 51]) (by decide) y3
theorem kf4 {V X : World} (h : S10 V X) : Calls Tryz.prog 33 #[.string ⟨#[]⟩, .int .i64 100] X fun en w' => en = .returned (.bool true) ∧ Below X.heap.size X w' := fails_of h (line := []) (by decide) y4
theorem kf5 {V X : World} (h : S10 V X) : Calls Tryz.prog 33 #[.string ⟨#[40, 97, 32, 43, 32, 98, 32, 99, 41]⟩, .int .i64 100] X fun en w' => en = .returned (.bool true) ∧ Below X.heap.size X w' := fails_of h (line := [40, 97, 32, 43, 32, 98, 32, 99, 41]) (by decide) y5
theorem kf6 {V X : World} (h : S10 V X) : Calls Tryz.prog 33 #[.string ⟨#[73, 78, 84]⟩, .int .i64 100] X fun en w' => en = .returned (.bool true) ∧ Below X.heap.size X w' := fails_of h (line := [73, 78, 84]) (by decide) y6
theorem kf7 {V X : World} (h : S10 V X) : Calls Tryz.prog 33 #[.string ⟨#[83, 75, 73, 80]⟩, .int .i64 100] X fun en w' => en = .returned (.bool true) ∧ Below X.heap.size X w' := fails_of h (line := [83, 75, 73, 80]) (by decide) y7
theorem kt1 (X : World) : Calls Tryz.prog 32 #[.int .u8 1, .agg #[.int .u8 4, .int .u8 0, .int .u8 0, .int .i32 0, .string ⟨#[120]⟩, .slice none 0 0], .agg #[.int .u8 1, .int .u8 0, .int .u8 0, .int .i32 1, .string ⟨#[]⟩, .slice none 0 0]] X fun en w' => ∃ q, en = .returned (.agg #[.int .u8 7, .int .u8 1, .int .u8 0, .int .i32 0, .string ⟨#[]⟩, .slice (some ⟨q, 0, none⟩) 2 2]) ∧ TrR w' (some ⟨q, 0, none⟩) 2 [xE, oE] ∧ Below X.heap.size X w' :=
  two_any 1 xE oE none none 0 0 0 0 X (TrR.nil X) rfl (ok_sm (by decide) (by decide) (by decide) (by decide) (by decide) (by decide)) (TrR.nil X) rfl (ok_sm (by decide) (by decide) (by decide) (by decide) (by decide) (by decide))
theorem kt2 (X : World) : Calls Tryz.prog 32 #[.int .u8 21, .agg #[.int .u8 3, .int .u8 0, .int .u8 0, .int .i32 1, .string ⟨#[]⟩, .slice none 0 0], .agg #[.int .u8 3, .int .u8 0, .int .u8 0, .int .i32 0, .string ⟨#[]⟩, .slice none 0 0]] X fun en w' => ∃ q, en = .returned (.agg #[.int .u8 7, .int .u8 21, .int .u8 0, .int .i32 0, .string ⟨#[]⟩, .slice (some ⟨q, 0, none⟩) 2 2]) ∧ TrR w' (some ⟨q, 0, none⟩) 2 [tE, fE] ∧ Below X.heap.size X w' :=
  two_any 21 tE fE none none 0 0 0 0 X (TrR.nil X) rfl (ok_sm (by decide) (by decide) (by decide) (by decide) (by decide) (by decide)) (TrR.nil X) rfl (ok_sm (by decide) (by decide) (by decide) (by decide) (by decide) (by decide))
theorem kt3 (X : World) : Calls Tryz.prog 32 #[.int .u8 15, .agg #[.int .u8 2, .int .u8 0, .int .u8 0, .int .i32 97, .string ⟨#[]⟩, .slice none 0 0], .agg #[.int .u8 2, .int .u8 0, .int .u8 0, .int .i32 98, .string ⟨#[]⟩, .slice none 0 0]] X fun en w' => ∃ q, en = .returned (.agg #[.int .u8 7, .int .u8 15, .int .u8 0, .int .i32 0, .string ⟨#[]⟩, .slice (some ⟨q, 0, none⟩) 2 2]) ∧ TrR w' (some ⟨q, 0, none⟩) 2 [cA, cB] ∧ Below X.heap.size X w' :=
  two_any 15 cA cB none none 0 0 0 0 X (TrR.nil X) rfl (ok_sm (by decide) (by decide) (by decide) (by decide) (by decide) (by decide)) (TrR.nil X) rfl (ok_sm (by decide) (by decide) (by decide) (by decide) (by decide) (by decide))
theorem ko1 (X : World) : TrR (X.alloc (.cells #[.int .u8 1, .int .u8 0, .int .u8 0, .int .i32 1, .string ⟨#[]⟩, .slice none 0 0] 27)) (some ⟨X.heap.size, 0, none⟩) 1 [oE] := TrR.one (boxS_new X _ _) (TrR.nil _) (ok_sm (by decide) (by decide) (by decide) (by decide) (by decide) (by decide))
theorem koa (X : World) : TrR (X.alloc (.cells #[.int .u8 4, .int .u8 0, .int .u8 0, .int .i32 0, .string ⟨#[97]⟩, .slice none 0 0] 27)) (some ⟨X.heap.size, 0, none⟩) 1 [aE] := TrR.one (boxS_new X _ _) (TrR.nil _) (ok_sm (by decide) (by decide) (by decide) (by decide) (by decide) (by decide))
theorem koi (X : World) : TrR (X.alloc (.cells #[.int .u8 4, .int .u8 0, .int .u8 0, .int .i32 0, .string ⟨#[105]⟩, .slice none 0 0] 27)) (some ⟨X.heap.size, 0, none⟩) 1 [iE] := TrR.one (boxS_new X _ _) (TrR.nil _) (ok_sm (by decide) (by decide) (by decide) (by decide) (by decide) (by decide))
theorem kos (X : World) {q : Nat} (t : TrR X (some ⟨q, 0, none⟩) 2 [xE, oE]) : TrR (X.alloc (.cells #[.int .u8 7, .int .u8 1, .int .u8 0, .int .i32 0, .string ⟨#[]⟩, .slice (some ⟨q, 0, none⟩) 2 2] 27)) (some ⟨X.heap.size, 0, none⟩) 1 [sE] := TrR.one (boxS_new X _ _) (t.keep (bal (b0 X) _)) (ok_sm (by decide) (by decide) (by decide) (by decide) (by decide) (by decide))

/-! ### The deep ones -/
theorem ok_mk {k o t : Nat} {n : Int} {s : Bs} {l : List Ex} (hk : k < 256) (ho : o < 256) (ht : t < 256) (h0 : -2147483648 ≤ n) (h1 : n ≤ 2147483647) (hs : s.length ≤ 100) : OKe (.mk k o t n s l) := ok_sm hk ho ht h0 h1 hs
theorem cat_op {a b : Bs} {s : ByteArray} (h : a.length + b.length ≤ 1000000) (hb : strOf b = s) : Op.stringOp .add (strOf a) s = pure (.string (strOf (a ++ b))) := by
  subst hb
  exact cat_str a b h
theorem cat_opn {j : Nat} (h : j < 32) : Op.stringOp .add (strOf (opn j)) ⟨#[40]⟩ = pure (.string (strOf (opn (j + 1)))) := by
  have : opn (j + 1) = opn j ++ [40] := List.replicate_succ'
  rw [this]
  exact cat_op (by simp [opn]; omega) rfl
theorem cat_sht {j : Nat} (h : j < 32) : Op.stringOp .add (strOf (sht j)) ⟨#[41]⟩ = pure (.string (strOf (sht (j + 1)))) := by
  have : sht (j + 1) = sht j ++ [41] := List.replicate_succ'
  rw [this]
  exact cat_op (by simp [sht]; omega) rfl
theorem cat_deep : Op.stringOp .add (strOf (opn 32)) ⟨#[97]⟩ = pure (.string (strOf (opn 32 ++ [97]))) ∧ Op.stringOp .add (strOf (opn 32 ++ [97])) (strOf (sht 32)) = pure (.string (strOf (opn 32 ++ [97] ++ sht 32))) ∧ Op.stringOp .add (strOf (opn 32)) ⟨#[40]⟩ = pure (.string (strOf (opn 32 ++ [40])))
    ∧ Op.stringOp .add (strOf (opn 32)) ⟨#[40, 97, 41]⟩ = pure (.string (strOf (opn 32 ++ [40, 97, 41]))) ∧ Op.stringOp .add (strOf (opn 32 ++ [40, 97, 41])) (strOf (sht 32)) = pure (.string (strOf (opn 32 ++ [40, 97, 41] ++ sht 32)))
    ∧ Op.stringOp .add (strOf (opn 32)) ⟨#[118, 91, 97, 93]⟩ = pure (.string (strOf (opn 32 ++ [118, 91, 97, 93]))) ∧ Op.stringOp .add (strOf (opn 32 ++ [118, 91, 97, 93])) (strOf (sht 32)) = pure (.string (strOf (opn 32 ++ [118, 91, 97, 93] ++ sht 32))) :=
  ⟨cat_op (by decide) rfl, cat_op (by decide) rfl, cat_op (by decide) rfl, cat_op (by decide) rfl, cat_op (by decide) rfl, cat_op (by decide) rfl, cat_op (by decide) rfl⟩
theorem kz1 {V X : World} (h : S10 V X) : Calls Tryz.prog 30 #[.string (strOf (opn 32 ++ [97] ++ sht 32)), .agg #[.int .u8 4, .int .u8 0, .int .u8 0, .int .i32 0, .string ⟨#[97]⟩, .slice none 0 0], .int .i64 65] X fun en w' => en = .returned (.bool true) ∧ Below X.heap.size X w' := reads_of h (line := opn 32 ++ [97] ++ sht 32) (by decide) z1 (A := none) (n := 0) (c := 0) (TrR.nil X) rfl (ok_mk (by decide) (by decide) (by decide) (by decide) (by decide) (by decide))
theorem kz2 {V X : World} (h : S10 V X) : Calls Tryz.prog 33 #[.string (strOf (opn 32 ++ [40])), .int .i64 3] X fun en w' => en = .returned (.bool true) ∧ Below X.heap.size X w' := fails_of h (line := opn 32 ++ [40]) (by decide) z2
theorem kz3 {V X : World} (h : S10 V X) : Calls Tryz.prog 33 #[.string (strOf (opn 32 ++ [40, 97, 41] ++ sht 32)), .int .i64 3] X fun en w' => en = .returned (.bool true) ∧ Below X.heap.size X w' := fails_of h (line := opn 32 ++ [40, 97, 41] ++ sht 32) (by decide) z3
theorem kz4 {V X : World} (h : S10 V X) : Calls Tryz.prog 33 #[.string (strOf (opn 32 ++ [118, 91, 97, 93] ++ sht 32)), .int .i64 3] X fun en w' => en = .returned (.bool true) ∧ Below X.heap.size X w' := fails_of h (line := opn 32 ++ [118, 91, 97, 93] ++ sht 32) (by decide) L10.z4
theorem PN.wrap {V X : World} {E : Ex} {A : Option Addr} {c K : Nat} (hV : W1.Tab V ∧ T10 V) (s : S10 V X) (hK : V.heap.size ≤ K) (ok : OKe E) (hb : BoxS X K 27 (exC E A E.l.length c)) (t : TrN X (fun k => k ≠ K) A c E.l) :
    PN V (set6 (X.alloc (.cells (exC E A E.l.length c) 27)) K (.int .u8 6) (.int .u8 25) (.int .u8 0) (.int .i32 0) (.string ⟨#[]⟩) (.slice (some ⟨X.heap.size, 0, none⟩) 1 1)) (.mk 6 25 0 0 [] [E]) K :=
  PN.set (e := .mk 6 25 0 0 [] [E]) hV (s.step (bal (b0 _) _)) hK (ok_mk (by decide) (by decide) (by decide) (by decide) (by decide) (by decide)) (hb.alloc _) (TrN.one (boxS_new X _ _) ok (by have := hb.lt; omega) (t.keep (bal (b0 X) _))) rfl
/-- A tree in the box K, with the words of its row. -/
structure PX (V X : World) (e : Ex) (A : Option Addr) (n c K : Nat) : Prop where
  s : S10 V X
  b : BoxS X K 27 (exC e A n c)
  t : TrR X A c e.l
theorem PX.step {V X Y : World} {e : Ex} {A : Option Addr} {n c K : Nat} (h : PX V X e A n c K) (b : Below X.heap.size X Y) : PX V Y e A n c K := ⟨h.s.step b, h.b.below b, h.t.keep b⟩
theorem PX.cells {V X : World} {e : Ex} {A : Option Addr} {n c K : Nat} (h : PX V X e A n c K) : X.cell? ⟨K, 0, none⟩ = some (.int .u8 (e.k : Int)) ∧ X.cell? ⟨K, 1, none⟩ = some (.int .u8 (e.o : Int)) ∧ X.cell? ⟨K, 2, none⟩ = some (.int .u8 (e.t : Int)) ∧ X.cell? ⟨K, 3, none⟩ = some (.int .i32 e.n) ∧ X.cell? ⟨K, 4, none⟩ = some (.string (strOf e.s)) ∧ X.cell? ⟨K, 5, none⟩ = some (.slice A n c) := box6 h.b
theorem PX.new {V X : World} {e : Ex} {A : Option Addr} {n c : Nat} (s : S10 V X) (t : TrR X A c e.l) : PX V (X.alloc (.cells (exC e A n c) 27)) e A n c X.heap.size := ⟨s.step (bal (b0 X) _), boxS_new X _ _, t.keep (bal (b0 X) _)⟩
theorem PX.more {V X : World} {E : Ex} {A : Option Addr} {n c K : Nat} (h : PX V X E A n c K) (hn : E.l.length = n) (ok : OKe E) : PX V ((X.alloc (.cells (exC E A n c) 27)).alloc (.cells #[.int .u8 6, .int .u8 25, .int .u8 0, .int .i32 0, .string ⟨#[]⟩, .slice (some ⟨X.heap.size, 0, none⟩) 1 1] 27)) (.mk 6 25 0 0 [] [E]) (some ⟨X.heap.size, 0, none⟩) 1 1 (X.heap.size + 1) := by
  subst hn
  have hx := PX.new (e := .mk 6 25 0 0 [] [E]) (n := 1) (h.s.step (bal (b0 X) (.cells (exC E A E.l.length c) 27))) (TrR.one (boxS_new X 27 _) (h.t.keep (bal (b0 X) _)) ok)
  rw [World.size_alloc] at hx
  exact hx
theorem PX.may {V X : World} {e : Ex} {A : Option Addr} {n c K : Nat} (h : PX V X e A n c K) (hn : e.l.length = n) (ok : OKe e) {b : Bool} (hm : mayE e = b) : Calls Tryz.prog 12 #[.agg (exC e A n c)] X fun en w' => en = .returned (.bool b) ∧ Below X.heap.size X w' := by
  subst hm
  exact pc.may e A n c X h.t hn ok h.s.t10
theorem PX.size {V X : World} {e : Ex} {A : Option Addr} {n c K : Nat} (h : PX V X e A n c K) (hn : e.l.length = n) (ok : OKe e) {z : Nat} (hz : szE e = z) (hz2 : z ≤ 1000) : Calls Tryz.prog 14 #[.agg (exC e A n c)] X fun en w' => en = .returned (.int .i64 (z : Int)) ∧ Below X.heap.size X w' := by
  subst hz
  exact pc.size e A n c X h.t hn ok (by omega) h.s.t10
/-! ### The wide ones -/
set_option maxRecDepth 100000 in
set_option maxHeartbeats 4000000 in
theorem two_anyN (N : Nat → Prop) (o : Nat) (a b : Ex) (A B : Option Addr) (n m c d : Nat) (w : World) (hN : ∀ k, w.heap.size ≤ k → N k) (R : TrN w N A c a.l) (hn : a.l.length = n) (oka : OKe a) (Q : TrN w N B d b.l) (hm : b.l.length = m) (okb : OKe b) :
    Calls Tryz.prog 32 #[.int .u8 (o : Int), exV a A n c, exV b B m d] w fun en w' => ∃ q, en = .returned (.agg #[.int .u8 7, .int .u8 (o : Int), .int .u8 0, .int .i32 0, .string ⟨#[]⟩, .slice (some ⟨q, 0, none⟩) 2 2]) ∧ TrN w' N (some ⟨q, 0, none⟩) 2 [a, b] ∧ Below w.heap.size w w' := by
  have HR : Hid (∀ (X : World) (cs : Array Value), Below w.heap.size w (X.alloc (.cells cs 27)) → w.heap.size ≤ X.heap.size → cs = (exL a A n c ++ exL b B m d).toArray → TrN (X.alloc (.cells cs 27)) N (some ⟨X.heap.size, 0, none⟩) 2 [a, b]) := Lib.hid fun X cs hb hx e => by
    subst e
    subst hn hm
    exact TrN.two (boxS_new X _ _) oka okb (hN _ hx) (R.keep hb) (Q.keep hb)
  clear R Q oka okb hn hm hN
  dsimp only [exV, exL, List.cons_append, List.nil_append] at *
  generalize hSa : strOf a.s = Sa at *
  generalize hSb : strOf b.s = Sb at *
  clear hSa hSb
  go_enter Tryz.func32, Tryz.ntmps32
  go_wp2
  have HF := Lib.hid (bal (bal (bal (bal (b0 w) (.cells #[.int .u8 (a.k : Int), .int .u8 (a.o : Int), .int .u8 (a.t : Int), .int .i32 a.n, .string Sa, .slice A n c] 27)) (.cells #[.int .u8 (b.k : Int), .int .u8 (b.o : Int), .int .u8 (b.t : Int), .int .i32 b.n, .string Sb, .slice B m d] 27)) (.cells #[.int .u8 7, .int .u8 (o : Int), .int .u8 0, .int .i32 0, .string ⟨#[]⟩, .slice (some ⟨w.heap.size + 1 + 1 + 1, 0, none⟩) 2 2] 27)) (.cells #[.int .u8 (a.k : Int), .int .u8 (a.o : Int), .int .u8 (a.t : Int), .int .i32 a.n, .string Sa, .slice A n c, .int .u8 (b.k : Int), .int .u8 (b.o : Int), .int .u8 (b.t : Int), .int .i32 b.n, .string Sb, .slice B m d] 27))
  have HT := HR.out _ _ HF.out (by rw [World.size_alloc, World.size_alloc, World.size_alloc]; omega) rfl
  rw [World.size_alloc, World.size_alloc, World.size_alloc] at HT
  have HT2 := Lib.hid HT
  clear HT
  refine bodyPost_ret (v := .agg #[.int .u8 7, .int .u8 (o : Int), .int .u8 0, .int .i32 0, .string ⟨#[]⟩, .slice (some ⟨w.heap.size + 1 + 1 + 1, 0, none⟩) 2 2]) (by simp [results, Tryz.results32, go_sem]) rfl ⟨_, rfl, HT2.out, HF.out⟩
/-- What 'two' answers of two trees of one box. -/
theorem PN.twice {V X : World} {E : Ex} {A : Option Addr} {n c K : Nat} (s : S10 V X) (hb : BoxS X K 27 (exC E A n c)) (hn : E.l.length = n) (ok : OKe E) (t : TrN X (fun k => k ≠ K) A c E.l) :
    Calls Tryz.prog 32 #[.int .u8 6, .agg (exC E A n c), .agg (exC E A n c)] X fun en w' => ∃ q, en = .returned (.agg #[.int .u8 7, .int .u8 6, .int .u8 0, .int .i32 0, .string ⟨#[]⟩, .slice (some ⟨q, 0, none⟩) 2 2]) ∧ TrN w' (fun k => k ≠ K) (some ⟨q, 0, none⟩) 2 [E, E] ∧ Below X.heap.size X w' :=
  two_anyN (fun k => k ≠ K) 6 E E A A n n c c X (fun k hk => by have := hb.lt; omega) t hn ok t hn ok
theorem PN.set2 {V X : World} {E : Ex} {q K : Nat} {a b c' d f g : Value} (hV : W1.Tab V ∧ T10 V) (h : S10 V X) (hK : V.heap.size ≤ K) (hb : BoxS X K 27 #[a, b, c', d, f, g]) (R : TrN X (fun k => k ≠ K) (some ⟨q, 0, none⟩) 2 [E, E]) :
    PN V (set6 X K (.int .u8 7) (.int .u8 6) (.int .u8 0) (.int .i32 0) (.string ⟨#[]⟩) (.slice (some ⟨q, 0, none⟩) 2 2)) (.mk 7 6 0 0 [] [E, E]) K :=
  PN.set (e := .mk 7 6 0 0 [] [E, E]) hV h hK (ok_mk (by decide) (by decide) (by decide) (by decide) (by decide) (by decide)) hb R rfl
theorem PN.put2 {V X Y : World} {E : Ex} {q K : Nat} (hV : W1.Tab V ∧ T10 V) (H : PN V Y E K) (b : Below Y.heap.size Y X) (t : TrN X (fun k => k ≠ K) (some ⟨q, 0, none⟩) 2 [E, E]) :
    PN V (set6 X K (.int .u8 7) (.int .u8 6) (.int .u8 0) (.int .i32 0) (.string ⟨#[]⟩) (.slice (some ⟨q, 0, none⟩) 2 2)) (.mk 7 6 0 0 [] [E, E]) K := by
  obtain ⟨A, c, hb, _⟩ := H.b
  exact PN.set2 hV (H.s.step b) H.hK (hb.below b) t
def mE : Ex := .mk 6 23 0 0 [] [oE]
theorem kt_full {V X : World} {E : Ex} {A : Option Addr} {n c K q : Nat} (h : PX V X E A n c K) (hn : E.l.length = n) (ok : OKe E) (t : TrR X (some ⟨q, 0, none⟩) 1 [oE]) :
    Calls Tryz.prog 32 #[.int .u8 6, .agg (exC E A n c), .agg #[.int .u8 6, .int .u8 23, .int .u8 0, .int .i32 0, .string ⟨#[]⟩, .slice (some ⟨q, 0, none⟩) 1 1]] X fun en w' => ∃ q, en = .returned (.agg #[.int .u8 7, .int .u8 6, .int .u8 0, .int .i32 0, .string ⟨#[]⟩, .slice (some ⟨q, 0, none⟩) 2 2]) ∧ TrR w' (some ⟨q, 0, none⟩) 2 [E, mE] ∧ Below X.heap.size X w' :=
  two_any 6 E mE A (some ⟨q, 0, none⟩) n 1 c 1 X h.t hn ok t rfl (ok_mk (by decide) (by decide) (by decide) (by decide) (by decide) (by decide))
/-! ### The ones that must not be -/
def bads (s : Nat) : List It := [⟨e0, none, 0⟩, ⟨.mk 4 0 0 0 [] [], none, 0⟩, ⟨.mk 4 0 0 0 [83, 69, 81] [], none, 0⟩, ⟨.mk 2 0 0 256 [] [], none, 0⟩, ⟨.mk 3 0 0 2 [] [], none, 0⟩, ⟨.mk 1 0 0 0 [97] [], none, 0⟩, ⟨.mk 5 0 0 0 [118] [], none, 0⟩, ⟨.mk 6 2 0 0 [] [wideE 0], some ⟨s, 0, none⟩, 1⟩, ⟨.mk 7 26 0 0 [] [wideE 0, wideE 0], some ⟨s + 1, 0, none⟩, 2⟩, ⟨.mk 8 0 4 0 [] [wideE 0], some ⟨s + 1 + 1, 0, none⟩, 1⟩, ⟨.mk 9 0 0 0 [118] [wideE 0], some ⟨s + 1 + 1 + 1, 0, none⟩, 1⟩, ⟨.mk 99 0 0 0 [] [], none, 0⟩]
theorem bads_ok (s : Nat) : ∀ j, j < (bads s).length → OKe ((bads s).getD j i0).e := fun j hj => match j, hj with
  | 0, _ => (ok_mk (by decide) (by decide) (by decide) (by decide) (by decide) (by decide)) | 1, _ => (ok_mk (by decide) (by decide) (by decide) (by decide) (by decide) (by decide)) | 2, _ => (ok_mk (by decide) (by decide) (by decide) (by decide) (by decide) (by decide)) | 3, _ => (ok_mk (by decide) (by decide) (by decide) (by decide) (by decide) (by decide)) | 4, _ => (ok_mk (by decide) (by decide) (by decide) (by decide) (by decide) (by decide)) | 5, _ => (ok_mk (by decide) (by decide) (by decide) (by decide) (by decide) (by decide)) | 6, _ => (ok_mk (by decide) (by decide) (by decide) (by decide) (by decide) (by decide)) | 7, _ => (ok_mk (by decide) (by decide) (by decide) (by decide) (by decide) (by decide)) | 8, _ => (ok_mk (by decide) (by decide) (by decide) (by decide) (by decide) (by decide)) | 9, _ => (ok_mk (by decide) (by decide) (by decide) (by decide) (by decide) (by decide)) | 10, _ => (ok_mk (by decide) (by decide) (by decide) (by decide) (by decide) (by decide)) | 11, _ => (ok_mk (by decide) (by decide) (by decide) (by decide) (by decide) (by decide))
  | j + 12, h => absurd (show j + 12 < 12 from h) (by omega)
theorem bads_tr {X Y : World} (b1 : BoxS X Y.heap.size 27 #[.int .u8 1, .int .u8 0, .int .u8 0, .int .i32 1, .string ⟨#[]⟩, .slice none 0 0]) (b2 : BoxS X (Y.heap.size + 1) 27 #[.int .u8 1, .int .u8 0, .int .u8 0, .int .i32 1, .string ⟨#[]⟩, .slice none 0 0, .int .u8 1, .int .u8 0, .int .u8 0, .int .i32 1, .string ⟨#[]⟩, .slice none 0 0]) (b3 : BoxS X (Y.heap.size + 1 + 1) 27 #[.int .u8 1, .int .u8 0, .int .u8 0, .int .i32 1, .string ⟨#[]⟩, .slice none 0 0]) (b4 : BoxS X (Y.heap.size + 1 + 1 + 1) 27 #[.int .u8 1, .int .u8 0, .int .u8 0, .int .i32 1, .string ⟨#[]⟩, .slice none 0 0]) (b5 : BoxS X (Y.heap.size + 1 + 1 + 1 + 1) 27 (itCs (bads Y.heap.size)).toArray) : TrR X (some ⟨Y.heap.size + 1 + 1 + 1 + 1, 0, none⟩) 12 badL := by
  have one : ∀ q, BoxS X q 27 #[.int .u8 1, .int .u8 0, .int .u8 0, .int .i32 1, .string ⟨#[]⟩, .slice none 0 0] → TrR X (some ⟨q, 0, none⟩) 1 [wideE 0] := fun q h => TrR.one h (TrR.nil X) (ok_mk (by decide) (by decide) (by decide) (by decide) (by decide) (by decide))
  have both : TrR X (some ⟨Y.heap.size + 1, 0, none⟩) 2 [wideE 0, wideE 0] := TrR.two b2 (TrR.nil X) (TrR.nil X) (ok_mk (by decide) (by decide) (by decide) (by decide) (by decide) (by decide)) (ok_mk (by decide) (by decide) (by decide) (by decide) (by decide) (by decide))
  refine TrR.lit b5 (show 12 ≤ 1000 by omega) (bads_ok _) fun j hj => ?_
  match j, hj with
  | 0, _ => exact TrR.nil X
  | 1, _ => exact TrR.nil X
  | 2, _ => exact TrR.nil X
  | 3, _ => exact TrR.nil X
  | 4, _ => exact TrR.nil X
  | 5, _ => exact TrR.nil X
  | 6, _ => exact TrR.nil X
  | 7, _ => exact one _ b1
  | 8, _ => exact both
  | 9, _ => exact one _ b3
  | 10, _ => exact one _ b4
  | 11, _ => exact TrR.nil X
  | j + 12, h => exact absurd (show j + 12 < 12 from h) (by omega)
theorem bads_new (Y : World) : TrR (((((Y.alloc (.cells #[.int .u8 1, .int .u8 0, .int .u8 0, .int .i32 1, .string ⟨#[]⟩, .slice none 0 0] 27)).alloc (.cells #[.int .u8 1, .int .u8 0, .int .u8 0, .int .i32 1, .string ⟨#[]⟩, .slice none 0 0, .int .u8 1, .int .u8 0, .int .u8 0, .int .i32 1, .string ⟨#[]⟩, .slice none 0 0] 27)).alloc (.cells #[.int .u8 1, .int .u8 0, .int .u8 0, .int .i32 1, .string ⟨#[]⟩, .slice none 0 0] 27)).alloc (.cells #[.int .u8 1, .int .u8 0, .int .u8 0, .int .i32 1, .string ⟨#[]⟩, .slice none 0 0] 27)).alloc (.cells #[.int .u8 0, .int .u8 0, .int .u8 0, .int .i32 0, .string ⟨#[]⟩, .slice none 0 0, .int .u8 4, .int .u8 0, .int .u8 0, .int .i32 0, .string ⟨#[]⟩, .slice none 0 0, .int .u8 4, .int .u8 0, .int .u8 0, .int .i32 0, .string ⟨#[83, 69, 81]⟩, .slice none 0 0, .int .u8 2, .int .u8 0, .int .u8 0, .int .i32 256, .string ⟨#[]⟩, .slice none 0 0, .int .u8 3, .int .u8 0, .int .u8 0, .int .i32 2, .string ⟨#[]⟩, .slice none 0 0, .int .u8 1, .int .u8 0, .int .u8 0, .int .i32 0, .string ⟨#[97]⟩, .slice none 0 0, .int .u8 5, .int .u8 0, .int .u8 0, .int .i32 0, .string ⟨#[118]⟩, .slice none 0 0, .int .u8 6, .int .u8 2, .int .u8 0, .int .i32 0, .string ⟨#[]⟩, .slice (some ⟨Y.heap.size, 0, none⟩) 1 1, .int .u8 7, .int .u8 26, .int .u8 0, .int .i32 0, .string ⟨#[]⟩, .slice (some ⟨Y.heap.size + 1, 0, none⟩) 2 2, .int .u8 8, .int .u8 0, .int .u8 4, .int .i32 0, .string ⟨#[]⟩, .slice (some ⟨Y.heap.size + 1 + 1, 0, none⟩) 1 1, .int .u8 9, .int .u8 0, .int .u8 0, .int .i32 0, .string ⟨#[118]⟩, .slice (some ⟨Y.heap.size + 1 + 1 + 1, 0, none⟩) 1 1, .int .u8 99, .int .u8 0, .int .u8 0, .int .i32 0, .string ⟨#[]⟩, .slice none 0 0] 27)) (some ⟨Y.heap.size + 1 + 1 + 1 + 1, 0, none⟩) 12 badL := by
  have k1 := boxS_new Y 27 #[.int .u8 1, .int .u8 0, .int .u8 0, .int .i32 1, .string ⟨#[]⟩, .slice none 0 0]
  have k2 := boxS_new (Y.alloc (.cells #[.int .u8 1, .int .u8 0, .int .u8 0, .int .i32 1, .string ⟨#[]⟩, .slice none 0 0] 27)) 27 #[.int .u8 1, .int .u8 0, .int .u8 0, .int .i32 1, .string ⟨#[]⟩, .slice none 0 0, .int .u8 1, .int .u8 0, .int .u8 0, .int .i32 1, .string ⟨#[]⟩, .slice none 0 0]
  have k3 := boxS_new ((Y.alloc (.cells #[.int .u8 1, .int .u8 0, .int .u8 0, .int .i32 1, .string ⟨#[]⟩, .slice none 0 0] 27)).alloc (.cells #[.int .u8 1, .int .u8 0, .int .u8 0, .int .i32 1, .string ⟨#[]⟩, .slice none 0 0, .int .u8 1, .int .u8 0, .int .u8 0, .int .i32 1, .string ⟨#[]⟩, .slice none 0 0] 27)) 27 #[.int .u8 1, .int .u8 0, .int .u8 0, .int .i32 1, .string ⟨#[]⟩, .slice none 0 0]
  have k4 := boxS_new (((Y.alloc (.cells #[.int .u8 1, .int .u8 0, .int .u8 0, .int .i32 1, .string ⟨#[]⟩, .slice none 0 0] 27)).alloc (.cells #[.int .u8 1, .int .u8 0, .int .u8 0, .int .i32 1, .string ⟨#[]⟩, .slice none 0 0, .int .u8 1, .int .u8 0, .int .u8 0, .int .i32 1, .string ⟨#[]⟩, .slice none 0 0] 27)).alloc (.cells #[.int .u8 1, .int .u8 0, .int .u8 0, .int .i32 1, .string ⟨#[]⟩, .slice none 0 0] 27)) 27 #[.int .u8 1, .int .u8 0, .int .u8 0, .int .i32 1, .string ⟨#[]⟩, .slice none 0 0]
  have k5 := boxS_new ((((Y.alloc (.cells #[.int .u8 1, .int .u8 0, .int .u8 0, .int .i32 1, .string ⟨#[]⟩, .slice none 0 0] 27)).alloc (.cells #[.int .u8 1, .int .u8 0, .int .u8 0, .int .i32 1, .string ⟨#[]⟩, .slice none 0 0, .int .u8 1, .int .u8 0, .int .u8 0, .int .i32 1, .string ⟨#[]⟩, .slice none 0 0] 27)).alloc (.cells #[.int .u8 1, .int .u8 0, .int .u8 0, .int .i32 1, .string ⟨#[]⟩, .slice none 0 0] 27)).alloc (.cells #[.int .u8 1, .int .u8 0, .int .u8 0, .int .i32 1, .string ⟨#[]⟩, .slice none 0 0] 27)) 27 (itCs (bads Y.heap.size)).toArray
  simp only [World.size_alloc] at k2 k3 k4 k5
  exact bads_tr ((((k1.alloc _).alloc _).alloc _).alloc _) (((k2.alloc _).alloc _).alloc _) ((k3.alloc _).alloc _) (k4.alloc _) k5
theorem bad_at {V X : World} {A : Option Addr} {n c : Nat} {j : Nat} (hj : j < 12) (s : S10 V X) (t : TrR X A c (badL.getD j e0).l) (hn : (badL.getD j e0).l.length = n) (ok : OKe (badL.getD j e0)) : Calls Tryz.prog 12 #[.agg (exC (badL.getD j e0) A n c)] X fun en w' => en = .returned (.bool false) ∧ Below X.heap.size X w' := by
  have := pc.may (badL.getD j e0) A n c X t hn ok s.t10
  rwa [bad_may _ (getD_memE (show j < badL.length from hj))] at this
/-! ### Words, names -/
theorem kw0 {V X : World} (s : S10 V X) : ∃ t, Calls Tryz.prog 10 #[.int .u8 0] X fun en w' => en = .returned (.tuple #[.string t, .bool false]) ∧ Below X.heap.size X w' := ⟨_, pc.word 0 (by decide) X s.t10⟩
theorem kw27 {V X : World} (s : S10 V X) : ∃ t, Calls Tryz.prog 10 #[.int .u8 27] X fun en w' => en = .returned (.tuple #[.string t, .bool false]) ∧ Below X.heap.size X w' := ⟨_, pc.word 27 (by decide) X s.t10⟩
theorem kw12 {V X : World} (s : S10 V X) : Calls Tryz.prog 10 #[.int .u8 12] X fun en w' => en = .returned (.tuple #[.string ⟨#[60, 60]⟩, .bool true]) ∧ Below X.heap.size X w' := pc.word 12 (by decide) X s.t10
theorem kt_names {X : World} {q : Nat} (t : TrR X (some ⟨q, 0, none⟩) 1 [iE]) : Calls Tryz.prog 32 #[.int .u8 1, .agg #[.int .u8 5, .int .u8 0, .int .u8 0, .int .i32 0, .string ⟨#[118]⟩, .slice (some ⟨q, 0, none⟩) 1 1], .agg #[.int .u8 9, .int .u8 0, .int .u8 0, .int .i32 0, .string ⟨#[119]⟩, .slice none 0 0]] X fun en w' => ∃ q, en = .returned (.agg #[.int .u8 7, .int .u8 1, .int .u8 0, .int .i32 0, .string ⟨#[]⟩, .slice (some ⟨q, 0, none⟩) 2 2]) ∧ TrR w' (some ⟨q, 0, none⟩) 2 [vE, wE] ∧ Below X.heap.size X w' :=
  two_any 1 vE wE (some ⟨q, 0, none⟩) none 1 0 1 0 X t rfl (ok_mk (by decide) (by decide) (by decide) (by decide) (by decide) (by decide)) (TrR.nil X) rfl (ok_mk (by decide) (by decide) (by decide) (by decide) (by decide) (by decide))
theorem kn_names {V X : World} {q : Nat} (s : S10 V X) (t : TrR X (some ⟨q, 0, none⟩) 2 [vE, wE]) : Calls Tryz.prog 17 #[.agg #[.int .u8 7, .int .u8 1, .int .u8 0, .int .i32 0, .string ⟨#[]⟩, .slice (some ⟨q, 0, none⟩) 2 2]] X fun en w' => ∃ B d, en = .returned (.slice B 3 d) ∧ SS w' B d [[118], [105], [119]] ∧ Below X.heap.size X w' := by
  have := pc.names nE (some ⟨q, 0, none⟩) 2 2 X t rfl (ok_mk (by decide) (by decide) (by decide) (by decide) (by decide) (by decide)) (by decide +kernel) s.t10
  rw [show nmE nE = [[118], [105], [119]] from nm_known] at this
  exact this
theorem ks_names (X : World) : SS (X.alloc (.cells #[.string ⟨#[118]⟩, .string ⟨#[105]⟩, .string ⟨#[119]⟩] 9)) (some ⟨X.heap.size, 0, none⟩) 3 [[118], [105], [119]] := ss_new (ss := [[118], [105], [119]]) (by unfold maxLen; decide) (boxS_new X _ _)
theorem kx_names {X : World} {B D : Option Addr} {b d : Nat} (h : SS X B b [[118], [105], [119]]) (k : SS X D d [[118], [105], [119]]) : Calls Tryz.prog 16 #[.slice B 3 b, .slice D 3 d] X fun e w' => e = .returned (.bool true) ∧ Below X.heap.size X w' := texts_any h k rfl rfl
end Go.Proofs.YtplcmcealeeppaaGreatDoor
