/- The row's walk, as the card calls it. -/
import Derived.Test.YtimbiobonigdmaaDoorGot
import Derived.Test.YtimbiobonigdmaaDoorFkq
set_option linter.unusedVariables false
set_option linter.unusedSimpArgs false
namespace Go.Proofs.YtimbiobonigdmaaDoor
open Go Go.RowKit L8 L10 L14

theorem walkFoldKeeps (e : Ex) (A : Option Addr) (n c : Nat) (hn : e.l.length = n) (ok : OKe e) (E : Option Addr) (k d : Nat) (l : List Sx) (hk : l.length = k) (M : Option Addr) (ml mc : Nat) (more : List Int) (hml : more.length = ml) (w : World) (R : TrR w A c e.l) (S : SxR w E d l) (V : IwR w M mc more) (T : T10 w) :
    Calls Tryd.prog 4 #[exV e A n c, .slice E k d, .slice M ml mc] w fun en w' => en = .returned (.bool true) ∧ Below w.heap.size w w' := by
  cases hg : grtX (l.map Sx.x) with
  | true => exact keeps_great e A n c E k d l hk M ml mc more w R S V T (.inl hg)
  | false =>
    rcases Nat.lt_or_ge 8 ml with h8 | h8
    · exact keeps_great e A n c E k d l hk M ml mc more w R S V T (.inr ⟨hg, h8⟩)
    · cases hm : mayE e with
      | false => exact keeps_bad e A n c hn ok E k d l hk M ml mc more w R S V T hg h8 hm
      | true => exact keeps_ok e A n c hn ok E k d l hk M ml mc more hml w R S V T hg h8 hm
theorem rowFoldKeeps (a0 : Ex) (A : Option Addr) (c : Nat) (ok : OKe a0) (a1 : Option Addr) (len1 cap1 : Nat) (z1 : List Sx) (a2 : Option Addr) (len2 cap2 : Nat) (z2 : List Int) (w : World) (R : TrR w A c a0.l) (w1 : z1.length = len1 ∧ SxR w a1 cap1 z1) (w2 : z2.length = len2 ∧ IwR w a2 cap2 z2) (h : T10 w) : Calls Tryd.prog 4 #[.agg (itC ⟨a0, A, c⟩).toArray, .slice a1 len1 cap1, .slice a2 len2 cap2] w fun e w' => e = .returned (.bool true) ∧ Below w.heap.size w w' :=
  walkFoldKeeps a0 A a0.l.length c rfl ok a1 len1 cap1 z1 w1.1 a2 len2 cap2 z2 w2.1 w R w1.2 w2.2 h
end Go.Proofs.YtimbiobonigdmaaDoor
