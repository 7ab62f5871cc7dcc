/- Trees in memory: what can be read. -/
import Derived.Test.YtblckajejohlbaaDoorKit
import Derived.Test.YtblckajejohlbaaDoorExd
set_option linter.unusedVariables false
set_option linter.unusedSimpArgs false
set_option linter.unusedVariables false
set_option linter.unusedSimpArgs false
namespace Go.Proofs.YtblckajejohlbaaDoor
open Go Go.RowKit L8 L10

/-- A tree as a value, its parts in a slice. -/
def exV (e : Ex) (A : Option Addr) (n c : Nat) : Value := .agg #[.int .u8 (e.k : Int), .int .u8 (e.o : Int), .int .u8 (e.t : Int), .int .i32 e.n, .string (strOf e.s), .slice A n c]
def exC (e : Ex) (A : Option Addr) (n c : Nat) : Array Value := #[.int .u8 (e.k : Int), .int .u8 (e.o : Int), .int .u8 (e.t : Int), .int .i32 e.n, .string (strOf e.s), .slice A n c]
def OKe (e : Ex) : Prop := e.k < 256 ∧ e.o < 256 ∧ e.t < 256 ∧ -2147483648 ≤ e.n ∧ e.n ≤ 2147483647 ∧ e.s.length ≤ maxLen
def ExAt (w : World) (p : Addr) (e : Ex) (A : Option Addr) (c : Nat) : Prop :=
  w.cell? p = some (.int .u8 (e.k : Int)) ∧ w.cell? ⟨p.block, p.off + 1, none⟩ = some (.int .u8 (e.o : Int)) ∧ w.cell? ⟨p.block, p.off + 2, none⟩ = some (.int .u8 (e.t : Int)) ∧ w.cell? ⟨p.block, p.off + 3, none⟩ = some (.int .i32 e.n)
    ∧ w.cell? ⟨p.block, p.off + 4, none⟩ = some (.string (strOf e.s)) ∧ w.cell? ⟨p.block, p.off + 5, none⟩ = some (.slice A e.l.length c)
theorem ExAt.keep {w w' : World} {p : Addr} {e : Ex} {A : Option Addr} {c : Nat} (h : ExAt w p e A c) (b : Below w.heap.size w w') : ExAt w' p e A c := by
  obtain ⟨h0, h1, h2, h3, h4, h5⟩ := h
  exact ⟨(b.cell (g_lt h0)).trans h0, (b.cell (g_lt h1)).trans h1, (b.cell (g_lt h2)).trans h2, (b.cell (g_lt h3)).trans h3, (b.cell (g_lt h4)).trans h4, (b.cell (g_lt h5)).trans h5⟩
/-- A slice of trees that can be read, whole. -/
inductive TrR (w : World) : Option Addr → Nat → List Ex → Prop
  | mk {A : Option Addr} {c : Nat} {l : List Ex} (As : Nat → Option Addr) (cs : Nat → Nat) (le : l.length ≤ c) (mx : c ≤ maxLen) (ok : ∀ j, j < l.length → OKe (l.getD j e0))
      (row : ∀ j, j < l.length → ∃ ad, A = some ad ∧ ExAt w (ad.add (j * 6)) (l.getD j e0) (As j) (cs j)) (sub : ∀ j, j < l.length → TrR w (As j) (cs j) (l.getD j e0).l) : TrR w A c l
theorem TrR.le {w : World} {A : Option Addr} {c : Nat} {l : List Ex} (h : TrR w A c l) : l.length ≤ c := by cases h; assumption
theorem TrR.mx {w : World} {A : Option Addr} {c : Nat} {l : List Ex} (h : TrR w A c l) : c ≤ maxLen := by cases h; assumption
theorem TrR.keep {w w' : World} {A : Option Addr} {c : Nat} {l : List Ex} (h : TrR w A c l) (b : Below w.heap.size w w') : TrR w' A c l := by
  induction h with
  | mk As cs le mx ok row sub ih => exact .mk As cs le mx ok (fun j hj => by obtain ⟨ad, e, h⟩ := row j hj; exact ⟨ad, e, h.keep b⟩) ih
theorem TrR.nil (w : World) : TrR w none 0 [] := .mk (fun _ => none) (fun _ => 0) (Nat.le_refl _) (by simp [maxLen]) (fun j h => absurd h (by simp)) (fun j h => absurd h (by simp)) (fun j h => absurd h (by simp))
theorem TrR.at {w : World} {A : Option Addr} {c : Nat} {l : List Ex} (h : TrR w A c l) {j : Nat} (hj : j < l.length) : ∃ ad, A = some ad ∧ ∃ B n d, (l.getD j e0).l.length = n ∧ OKe (l.getD j e0) ∧ TrR w B d (l.getD j e0).l ∧
    w.cell? (ad.add (j * 6)) = some (.int .u8 ((l.getD j e0).k : Int)) ∧ w.cell? ⟨(ad.add (j * 6)).block, (ad.add (j * 6)).off + 1, none⟩ = some (.int .u8 ((l.getD j e0).o : Int)) ∧ w.cell? ⟨(ad.add (j * 6)).block, (ad.add (j * 6)).off + 2, none⟩ = some (.int .u8 ((l.getD j e0).t : Int)) ∧ w.cell? ⟨(ad.add (j * 6)).block, (ad.add (j * 6)).off + 3, none⟩ = some (.int .i32 (l.getD j e0).n)
      ∧ w.cell? ⟨(ad.add (j * 6)).block, (ad.add (j * 6)).off + 4, none⟩ = some (.string (strOf (l.getD j e0).s)) ∧ w.cell? ⟨(ad.add (j * 6)).block, (ad.add (j * 6)).off + 5, none⟩ = some (.slice B n d) := by
  cases h with
  | mk As cs le mx ok row sub =>
    obtain ⟨ad, e, h⟩ := row j hj
    exact ⟨ad, e, As j, _, cs j, rfl, ok j hj, sub j hj, h⟩
theorem getD_memE {l : List Ex} {j : Nat} (hj : j < l.length) : l.getD j e0 ∈ l := by
  have e : l.getD j e0 = l[j] := by simp [hj]
  rw [e]; exact List.getElem_mem hj
/-- The cells of a tree's box. -/
theorem box6 {W : World} {q : Nat} {t : TypeId} {a b c d e f : Value} (h : BoxS W q t #[a, b, c, d, e, f]) : W.cell? ⟨q, 0, none⟩ = some a ∧ W.cell? ⟨q, 1, none⟩ = some b ∧ W.cell? ⟨q, 2, none⟩ = some c ∧ W.cell? ⟨q, 3, none⟩ = some d ∧ W.cell? ⟨q, 4, none⟩ = some e ∧ W.cell? ⟨q, 5, none⟩ = some f :=
  ⟨(h.cell 0).trans rfl, (h.cell 1).trans rfl, (h.cell 2).trans rfl, (h.cell 3).trans rfl, (h.cell 4).trans rfl, (h.cell 5).trans rfl⟩
/-- A world in which a tree lies in a box. -/
def XS (w X : World) (e : Ex) (A : Option Addr) (n c : Nat) : Prop := Below w.heap.size w X ∧ BoxS X w.heap.size 62 (exC e A n c) ∧ TrR X A c e.l
theorem XS.new {w : World} {e : Ex} {A : Option Addr} {n c : Nat} (R : TrR w A c e.l) : XS w (w.alloc (.cells (exC e A n c) 62)) e A n c := ⟨bal (b0 w) _, boxS_new w _ _, R.keep (bal (b0 w) _)⟩
theorem XS.step {w X Y : World} {e : Ex} {A : Option Addr} {n c : Nat} (h : XS w X e A n c) (b : Below X.heap.size X Y) : XS w Y e A n c := ⟨blw h.1 b, h.2.1.below b, h.2.2.keep b⟩
theorem XS.bel {w X : World} {e : Ex} {A : Option Addr} {n c : Nat} (h : XS w X e A n c) : Below w.heap.size w X := h.1
theorem XS.tr {w X : World} {e : Ex} {A : Option Addr} {n c : Nat} (h : XS w X e A n c) : TrR X A c e.l := h.2.2
theorem XS.box {w X : World} {e : Ex} {A : Option Addr} {n c : Nat} (h : XS w X e A n c) : X.cell? ⟨w.heap.size, 0, none⟩ = some (.int .u8 (e.k : Int)) ∧ X.cell? ⟨w.heap.size, 1, none⟩ = some (.int .u8 (e.o : Int)) ∧ X.cell? ⟨w.heap.size, 2, none⟩ = some (.int .u8 (e.t : Int)) ∧ X.cell? ⟨w.heap.size, 3, none⟩ = some (.int .i32 e.n) ∧ X.cell? ⟨w.heap.size, 4, none⟩ = some (.string (strOf e.s)) ∧ X.cell? ⟨w.heap.size, 5, none⟩ = some (.slice A n c) := box6 h.2.1
/-! ### Numbers that may wrap around -/
theorem wrap_add (a b : Int) : IntKind.i64.wrap (IntKind.i64.wrap a + IntKind.i64.wrap b) = IntKind.i64.wrap (a + b) := by
  simp only [IntKind.wrap_i64]
  omega
theorem wrap_rng (a : Int) : -9223372036854775808 ≤ IntKind.i64.wrap a ∧ IntKind.i64.wrap a ≤ 9223372036854775807 := by
  simp only [IntKind.wrap_i64]
  omega
end Go.Proofs.YtblckajejohlbaaDoor
