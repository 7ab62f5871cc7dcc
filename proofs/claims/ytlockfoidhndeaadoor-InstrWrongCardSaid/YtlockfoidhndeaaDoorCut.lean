/- strings.Cut at one space. -/
import Derived.Test.YtlockfoidhndeaaDoorShelf
import Derived.Test.YtlockfoidhndeaaDoorRread
import Derived.Test.YtlockfoidhndeaaDoorTab
import Derived.Lib.CutLaws
import Derived.Shelf.RegionOpen
namespace Go.Proofs.YtlockfoidhndeaaDoor
open Go Go.RowKit

theorem indexByte_sp : ∀ l : List UInt8, Lib.indexByte l 32 = if hasSp l = true then ((hd l).length : Int) else -1
  | [] => rfl
  | c :: l => by
    have ih := indexByte_sp l
    unfold Lib.indexByte
    by_cases hc : c = 32
    · subst hc
      rw [if_pos (by decide)]
      have : hasSp (32 :: l) = true := rfl
      rw [if_pos this]
      rfl
    · rw [if_neg (by simpa using hc), ih]
      have h1 : hasSp (c :: l) = hasSp l := by unfold hasSp; rw [List.dropWhile_cons_of_pos (by simpa using hc)]
      have h2 : hd (c :: l) = c :: hd l := by unfold hd; rw [List.takeWhile_cons_of_pos (by simpa using hc)]
      rw [h1, h2]
      by_cases h : hasSp l = true
      · rw [if_pos h, if_pos h, if_neg (by simp)]
        simp
      · rw [if_neg h, if_neg h]
        rfl
theorem cut_lists {l : List UInt8} (h : l = hd l ++ 32 :: tl l) : l.take (hd l).length = hd l ∧ l.drop ((hd l).length + 1) = tl l := by
  generalize hd l = a at *
  generalize tl l = b at *
  subst h
  simp
theorem strOf_of {x : ByteArray} {l : List UInt8} (h : x.data.toList = l) : x = strOf l := by subst h; simp [strOf]
set_option maxHeartbeats 1000000 in
theorem litecut_any (s : ByteArray) (hs : s.size ≤ maxLen) (w : World) :
    Calls Tryd.prog 55 #[.string s, .string ⟨#[32]⟩] w fun e w' => e = .returned (.tuple #[.string (strOf (hd s.data.toList)), .string (strOf (tl s.data.toList)), .bool (hasSp s.data.toList)]) ∧ ∃ n, w' = w.drewN n := by
  unfold maxLen at hs
  have C := fun W => Tryd.stringslite_Index_one s 32 W
  have hi := indexByte_sp s.data.toList
  have hlen : s.data.toList.length = s.size := by simp
  rcases hasSp_cases s.data.toList with ⟨h1, h2, _⟩ | ⟨h1, h2, h3, _⟩
  · rw [if_pos h1] at hi
    have hle : (hd s.data.toList).length + 1 ≤ s.size := by
      have := congrArg List.length h2
      simp at this
      omega
    have e1 : s.extract 0 (hd s.data.toList).length = strOf (hd s.data.toList) := strOf_of (by
      rw [Lib.extract_data, List.drop_zero, Nat.sub_zero]
      exact (cut_lists h2).1)
    have e2 : s.extract ((hd s.data.toList).length + 1) s.size = strOf (tl s.data.toList) := strOf_of (by
      rw [Lib.extract_to_end]
      exact (cut_lists h2).2)
    rw [hi] at C
    rw [h1, ← e1, ← e2]
    generalize (hd s.data.toList).length = i at *
    clear hi e1 e2 h2 h1 hlen
    have CC := Lib.hid C
    clear C
    have c1 : (0 : Int) ≤ ↑i := by omega
    have c2 : (↑i : Int) ≤ ↑s.size := by omega
    have c3 : (0 : Int) ≤ ↑i + 1 := by omega
    have c4 : (↑i + 1 : Int) ≤ ↑s.size := by omega
    go_enter Tryd.func55, Tryd.ntmps55
    go_wp2_with (go_at_call 66; refine (CC.out _).mono ?_; rintro e w' ⟨rfl, rfl⟩)
    go_region
    go_wp2
    go_ret3
    exact ⟨rfl, 1, rfl⟩
  · rw [if_neg (by rw [h1]; decide)] at hi
    have e1 : s = strOf (hd s.data.toList) := strOf_of h2.symm
    rw [hi] at C
    rw [h1, h3, ← e1]
    have CC := Lib.hid C
    clear hi e1 h2 h1 h3 hlen C
    go_enter Tryd.func55, Tryd.ntmps55
    go_wp2_with (go_at_call 66; refine (CC.out _).mono ?_; rintro e w' ⟨rfl, rfl⟩)
    go_ret3
    exact ⟨rfl, 0, rfl⟩
theorem Cut_any (s : ByteArray) (hs : s.size ≤ maxLen) (w : World) :
    Calls Tryd.prog 35 #[.string s, .string ⟨#[32]⟩] w fun e w' => e = .returned (.tuple #[.string (strOf (hd s.data.toList)), .string (strOf (tl s.data.toList)), .bool (hasSp s.data.toList)]) ∧ ∃ n, w' = w.drewN n := by
  have C := Lib.hid (litecut_any s hs)
  go_enter Tryd.func35, Tryd.ntmps35
  go_wp2_with (go_at_call 55; refine (C.out _).mono ?_; rintro e w' ⟨rfl, n, rfl⟩)
  go_ret3
  exact ⟨rfl, n, rfl⟩
end Go.Proofs.YtlockfoidhndeaaDoor
