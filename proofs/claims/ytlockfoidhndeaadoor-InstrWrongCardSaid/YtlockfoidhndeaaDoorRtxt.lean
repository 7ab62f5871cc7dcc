/- The reference's texts of instructions, and what it reads a text as. -/
import Derived.Test.YtlockfoidhndeaaDoorRnam
namespace Go.Proofs.YtlockfoidhndeaaDoor
open Go Go.RowKit

set_option maxHeartbeats 2000000 in
theorem RText_is (f a : Int) (hf : 0 ≤ f) (ha : isW a) (w : World) :
    Calls Tryd.prog 15 #[.agg #[.int .u8 f, .int .i32 a]] w fun e w' => e = .returned (.tuple #[.string (strOf (txL f a)), .int .i64 (txE f a)]) ∧ Below w.heap.size w w' := by
  have C := Lib.hid (fun (W : World) => Find_any f a hf W)
  obtain ⟨a0, a1⟩ := id ha
  by_cases he : ex f a = true
  · have hle := (ex_facts hf he).2.2.2.2.1
    have htl := (text_len a false a0 a1).2
    unfold FindIs at C
    rw [he] at C
    by_cases h15 : f = 15
    · subst h15
      obtain ⟨e1, e2⟩ := tx_op he rfl
      rw [e1, e2]
      clear e1 e2 he hle htl ha a0 a1
      generalize nm 15 a = n at *
      go_enter Tryd.func15, Tryd.ntmps15
      go_wp2_with (go_at_call 11; refine (C.out _).mono ?_; rintro e w1 ⟨rfl, b1⟩; obtain ⟨x0, x1, x2⟩ := box2 b1; have B1 := Lib.hid (blw (bal (b0 w) _) b1); clear b1)
      go_ret2
      exact ⟨rfl, bal B1.out _⟩
    · have h15' : (f == 15) = false := by simpa using h15
      obtain ⟨e1, e2⟩ := tx_fn he h15
      rw [e1, e2]
      have hcat := cat_str (nm f a) [32] (by simp; omega)
      have hcat2 := cat_str (nm f a ++ [32]) (textL a false) (by simp; omega)
      have HN := Lib.hid (show (nm f a ++ [32]) ++ textL a false = nm f a ++ 32 :: textL a false by simp)
      have D := Lib.hid (fun W => RText_any a false ha W)
      clear e1 e2 he hle htl ha a0 a1 h15
      generalize nm f a ++ 32 :: textL a false = tx at *
      generalize hn : nm f a = n at *
      generalize n ++ [32] = ns at *
      generalize textL a false = t at *
      generalize ns ++ t = nt at *
      have hcat' : Op.stringOp .add (strOf n) ⟨#[32]⟩ = pure (.string (strOf ns)) := hcat
      clear hcat hn
      go_enter Tryd.func15, Tryd.ntmps15
      go_wp2_with (go_at_call 11; refine (C.out _).mono ?_; rintro e w1 ⟨rfl, b1⟩; obtain ⟨x0, x1, x2⟩ := box2 b1; have B1 := Lib.hid (blw (bal (b0 w) _) b1); clear b1)
      go_quiet ((go_at_call 32; exact Calls.quiet_of (D.out _)))
      go_wp2
      go_ret2
      exact ⟨ret_si (by rw [HN.out]) rfl, bdrew (bal B1.out _) _⟩
  · have he' : ex f a = false := by simpa using he
    unfold FindIs at C
    rw [he'] at C
    obtain ⟨e1, e2⟩ := tx_no he'
    rw [e1, e2]
    clear e1 e2 he he' ha a0 a1
    go_enter Tryd.func15, Tryd.ntmps15
    go_wp2_with (go_at_call 11; refine (C.out _).mono ?_; rintro e w1 ⟨rfl, b1⟩; have B1 := Lib.hid (blw (bal (b0 w) _) b1); clear b1)
    go_ret2
    exact ⟨rfl, bal B1.out _⟩
/-- The bytes ahead of the first space. -/
theorem byte_in (s : ByteArray) {k : Nat} (hk : k < (hd s.data.toList).length) (h : k < s.size) : ((s[k].toNat : Nat) : Int) ≠ 32 := by
  have hl : k < s.data.toList.length := by simpa using h
  have hg : s.data.toList[k] = s[k] := rfl
  have hm : s[k] ∈ hd s.data.toList := by
    have h1 : (hd s.data.toList)[k]? = s.data.toList[k]? := by
      rcases hasSp_cases s.data.toList with ⟨_, h2, _⟩ | ⟨_, h2, _, _⟩
      · conv => rhs; rw [h2]
        rw [List.getElem?_append_left hk]
      · rw [h2]
    rw [List.getElem?_eq_getElem hk, List.getElem?_eq_getElem hl, hg] at h1
    injection h1 with h1
    rw [← h1]
    exact List.getElem_mem hk
  have hne : s[k] ≠ 32 := by
    rcases hasSp_cases s.data.toList with ⟨_, _, h3⟩ | ⟨_, h2, _, h3⟩
    · exact h3 _ hm
    · rw [h2] at hm; exact h3 _ hm
  intro e
  apply hne
  apply UInt8.toNat_inj.1
  show s[k].toNat = 32
  omega
theorem byte_sp (s : ByteArray) (hs : hasSp s.data.toList = true) (h : (hd s.data.toList).length < s.size) : ((s[(hd s.data.toList).length].toNat : Nat) : Int) = 32 := by
  have hl : (hd s.data.toList).length < s.data.toList.length := by simpa using h
  have hg : s.data.toList[(hd s.data.toList).length] = s[(hd s.data.toList).length] := rfl
  rcases hasSp_cases s.data.toList with ⟨_, h2, _⟩ | ⟨h1, _⟩
  · have h1 : s.data.toList[(hd s.data.toList).length]? = some 32 := by
      generalize hd s.data.toList = a at *
      generalize tl s.data.toList = b at *
      rw [h2]
      simp
    rw [List.getElem?_eq_getElem hl, hg] at h1
    injection h1 with h1
    rw [h1]
    rfl
  · rw [h1] at hs; cases hs
theorem hd_size (s : ByteArray) : (hasSp s.data.toList = true → (hd s.data.toList).length + 1 ≤ s.size) ∧ (hasSp s.data.toList = false → (hd s.data.toList).length = s.size) ∧ (hd s.data.toList).length ≤ s.size := by
  have hlen : s.data.toList.length = s.size := by simp
  rcases hasSp_cases s.data.toList with ⟨h1, h2, _⟩ | ⟨h1, h2, _, _⟩
  · have := congrArg List.length h2
    simp at this
    exact ⟨fun _ => by omega, fun h => (by rw [h1] at h; cases h), by omega⟩
  · rw [h2, hlen]
    exact ⟨fun h => (by rw [h1] at h; cases h), fun _ => rfl, Nat.le_refl _⟩
theorem hd_ext (s : ByteArray) : s.extract 0 (hd s.data.toList).length = strOf (hd s.data.toList) := strOf_of (by
  rw [Lib.extract_data, List.drop_zero, Nat.sub_zero]
  rcases hasSp_cases s.data.toList with ⟨h1, h2, _⟩ | ⟨h1, h2, _, _⟩
  · exact (cut_lists h2).1
  · rw [h2, List.take_length])
theorem tl_ext (s : ByteArray) (h : hasSp s.data.toList = true) : s.extract ((hd s.data.toList).length + 1) s.size = strOf (tl s.data.toList) := strOf_of (by
  rw [Lib.extract_to_end]
  rcases hasSp_cases s.data.toList with ⟨h1, h2, _⟩ | ⟨h1, _⟩
  · exact (cut_lists h2).2
  · rw [h1] at h; cases h)
end Go.Proofs.YtlockfoidhndeaaDoor
