/- Texts that are not read: plain lists. -/
import Derived.Test.YtlockfoidhndeaaDoorLawsB
import Derived.Lib.ReplaceLaws
namespace Go.Proofs.YtlockfoidhndeaaDoor
open Go Go.RowKit

theorem natL_sp {base : Nat} (hb : base = 10 ∨ base = 16) : ∀ (l : List UInt8) (n m : Nat), natL base l n = some m → ∀ c ∈ l, c ≠ 32
  | [], _, _, _, c, hc => by cases hc
  | x :: xs, n, m, h, c, hc => by
    rw [natL_cons] at h
    cases hd : dval base x with
    | none => rw [hd] at h; cases h
    | some d =>
      rw [hd] at h
      rcases List.mem_cons.1 hc with rfl | hc'
      · rintro rfl
        rcases hb with rfl | rfl
        · rw [show dval 10 32 = none by decide] at hd; cases hd
        · rw [show dval 16 32 = none by decide] at hd; cases hd
      · by_cases hbig : 4294967295 < n
        · simp [hbig] at h
        · simp only [if_neg hbig] at h
          exact natL_sp hb xs _ _ h c hc'
/-- No text of a word holds a space. -/
theorem text_sp (v : Int) (hex : Bool) (h0 : -2147483648 ≤ v) (h1 : v ≤ 2147483647) : ∀ c ∈ textL v hex, c ≠ 32 := by
  obtain ⟨n, hg, _⟩ := guessC_text v hex h0 h1
  unfold guessC at hg
  intro c hc
  split at hg
  · rename_i ds heq
    rw [heq] at hc
    obtain ⟨m, hm, _⟩ := Option.map_eq_some_iff.1 hg
    rcases List.mem_cons.1 hc with rfl | hc'
    · decide
    · exact natL_sp (.inr rfl) ds 0 m hm c hc'
  · rename_i ds heq
    rw [heq] at hc
    obtain ⟨m, hm, _⟩ := Option.map_eq_some_iff.1 hg
    rcases List.mem_cons.1 hc with rfl | hc'
    · decide
    · exact natL_sp (.inl rfl) ds 0 m hm c hc'
  · obtain ⟨m, hm, _⟩ := Option.map_eq_some_iff.1 hg
    exact natL_sp (.inl rfl) _ 0 m hm c hc
theorem read_sp {l : List UInt8} (h : (32 : UInt8) ∈ l) : (readC l).2 ≠ 0 := by
  rcases readC_cases l with e | ⟨v, hex, h0, h1, rfl⟩
  · rw [e]; decide
  · exact absurd rfl (text_sp v hex h0 h1 32 h)
/-- The hexadecimal text is read as the decimal one. -/
theorem rd_hex {f a : Int} (hf : 0 ≤ f) (ha : isW a) (he : ex f a = true) (h15 : f ≠ 15) (hex : Bool) : rdI (nm f a ++ 32 :: textL a hex) = (f, a, 0) := by
  obtain ⟨hfi, hc, _⟩ := ex_facts hf he
  obtain ⟨e1, e2, e3⟩ := hd_cons (n := nm f a) (x := textL a hex) (fun c hc' => (hc c hc').1)
  rw [if_neg h15] at hfi
  have hr := readC_text a hex ha.1 ha.2
  rw [rd_fn_ok (p := (f, 0)) (by rw [e1]; exact hfi) h15 e3 (by rw [e2, hr]), e2, hr]
theorem find_nil : findI [] = none := by decide +kernel
theorem rd_front (l : List UInt8) : rdI (32 :: l) = (0, 0, 50) := by
  have h := hd_cons (n := []) (x := l) (fun c hc => by cases hc)
  exact rd_none (by rw [show hd (32 :: l) = [] from h.1]; exact find_nil)
theorem rd_behind {f a : Int} (hf : 0 ≤ f) (he : ex f a = true) : rdI (txL f a ++ [32]) = (0, 0, 5) := by
  obtain ⟨hfi, hc, _⟩ := ex_facts hf he
  by_cases h15 : f = 15
  · subst h15
    rw [(tx_op he rfl).1]
    obtain ⟨e1, e2, e3⟩ := hd_cons (n := nm 15 a) (x := []) (fun c hc' => (hc c hc').1)
    rw [if_pos rfl] at hfi
    exact rd_op_sp (p := (15, a)) (by rw [e1]; exact hfi) rfl e3
  · rw [(tx_fn he h15).1, List.append_assoc, List.cons_append]
    obtain ⟨e1, e2, e3⟩ := hd_cons (n := nm f a) (x := textL a false ++ [32]) (fun c hc' => (hc c hc').1)
    rw [if_neg h15] at hfi
    exact rd_fn_bad (p := (f, 0)) (by rw [e1]; exact hfi) h15 e3 (by rw [e2]; exact read_sp (by simp))
theorem rd_arg {a : Int} (he : ex 15 a = true) (t : List UInt8) : rdI (nm 15 a ++ 32 :: t) = (0, 0, 5) := by
  obtain ⟨hfi, hc, _⟩ := ex_facts (by decide) he
  obtain ⟨e1, e2, e3⟩ := hd_cons (n := nm 15 a) (x := t) (fun c hc' => (hc c hc').1)
  rw [if_pos rfl] at hfi
  exact rd_op_sp (p := (15, a)) (by rw [e1]; exact hfi) rfl e3
theorem rd_bare {f a : Int} (hf : 0 ≤ f) (he : ex f a = true) (h15 : f ≠ 15) : rdI (nm f a) = (0, 0, 5) := by
  obtain ⟨hfi, hc, _⟩ := ex_facts hf he
  obtain ⟨e1, e2⟩ := hd_none (n := nm f a) (fun c hc' => (hc c hc').1)
  rw [if_neg h15] at hfi
  exact rd_fn_no (p := (f, 0)) (by rw [e1]; exact hfi) h15 e2
theorem rd_twice {f a : Int} (hf : 0 ≤ f) (he : ex f a = true) (h15 : f ≠ 15) (t : List UInt8) : rdI (nm f a ++ 32 :: 32 :: t) = (0, 0, 5) := by
  obtain ⟨hfi, hc, _⟩ := ex_facts hf he
  obtain ⟨e1, e2, e3⟩ := hd_cons (n := nm f a) (x := 32 :: t) (fun c hc' => (hc c hc').1)
  rw [if_neg h15] at hfi
  exact rd_fn_bad (p := (f, 0)) (by rw [e1]; exact hfi) h15 e3 (by rw [e2]; exact read_sp (by simp))
theorem upper_all : (insts.all fun p => findI (hd (Lib.toUpperA (nm p.1 p.2))) == none) = true := by decide +kernel
theorem rd_upper {f a : Int} (hf : 0 ≤ f) (he : ex f a = true) : rdI (Lib.toUpperA (nm f a)) = (0, 0, 50) := by
  have hm := ex_mem hf he
  have hA := List.all_eq_true.1 upper_all _ hm
  have hn : nm f (if f = 15 then a else 0) = nm f a := by
    by_cases h15 : f = 15
    · rw [if_pos h15]
    · rw [if_neg h15]; exact (ex_nm (a := 0) (b := a) (.inl (by have := (ex_le he).1; omega))).2.1
  simp only [hn, beq_iff_eq] at hA
  exact rd_none hA
/-- The first space doubled. -/
theorem index_sp : ∀ (n : List UInt8) (t : List UInt8), (∀ c ∈ n, c ≠ 32) → Lib.index (n ++ 32 :: t) [32] = (n.length : Int)
  | [], t, _ => by
    unfold Lib.index
    simp [List.isPrefixOf]
  | c :: n, t, h => by
    have ih := index_sp n t (fun x hx => h x (List.mem_cons_of_mem _ hx))
    have hc := h c (List.mem_cons_self ..)
    rw [List.cons_append]
    unfold Lib.index
    rw [ih, if_neg (by simp [List.isPrefixOf]; exact fun e => hc e.symm), if_neg (by simp)]
    simp
theorem count_pos (n t : List UInt8) (h : ∀ c ∈ n, c ≠ 32) : 1 ≤ Lib.count (n ++ 32 :: t) [32] := by
  unfold Lib.count Lib.countFrom
  rw [index_sp n t h, if_neg (by simp)]
  omega
theorem replace_sp (n t : List UInt8) (h : ∀ c ∈ n, c ≠ 32) : Lib.replace (n ++ 32 :: t) [32] [32, 32] 1 = n ++ 32 :: 32 :: t := by
  have hn : Lib.replaceNum (n ++ 32 :: t) [32] 1 = 1 := by
    have := count_pos n t h
    unfold Lib.replaceNum
    rw [if_neg (by omega)]
    rfl
  unfold Lib.replace
  rw [if_neg (by decide), hn, Lib.replaceK_hit _ _ 0 _ n.length (index_sp n t h)]
  unfold Lib.replaceK
  simp
end Go.Proofs.YtlockfoidhndeaaDoor
