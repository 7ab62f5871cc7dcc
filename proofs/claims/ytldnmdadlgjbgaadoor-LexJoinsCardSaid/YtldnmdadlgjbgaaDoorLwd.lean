/- LexJoins, LexBytes: their walks. -/
import Derived.Test.YtldnmdadlgjbgaaDoorLwc
import Derived.Test.YtldnmdadlgjbgaaDoorLxi
set_option linter.unusedVariables false
set_option linter.unusedSimpArgs false
namespace Go.Proofs.YtldnmdadlgjbgaaDoor
open Go Go.RowKit L8

theorem kern_shift (d : Nat) (l : List Tk) : kern (l.map (shift d)) = kern l := by unfold kern; rw [List.map_map]; rfl
theorem kern_app (a b : List Tk) : kern (a ++ b) = kern a ++ kern b := by unfold kern; rw [List.map_append]
/-- A line, a space, another line. -/
theorem joined {a b : Bs} {l : List Tk} (ha : toks a 0 = .ok l) : toks (a ++ 32 :: b) 0 = match toks b 0 with | .error e => .error (e + (a.length + 1)) | .ok m => .ok (l ++ m.map (shift (a.length + 1))) := by
  rw [toks_join b _ a 0 l (Nat.le_refl _) ha, toks_at b (0 + a.length + 1), show 0 + a.length + 1 = a.length + 1 by omega]
  cases toks b 0 <;> rfl
theorem OwnR.keepR {w w' : World} {e : TypeId} {B n c n1 c1 : Nat} {A A1 : Option Addr} {rs : List Tk} (h : OwnR w e B A n c rs) (g : w.grownBy w' (Value.slice A1 n1 c1).ownBlock) (hb : ∀ ad, A1 = some ad → ad.block < B) : OwnR w' e B A n c rs := by
  refine World.ownsRow.kept h g ?_
  cases A with
  | none => simp [Value.ownBlock]
  | some ad =>
    have h1 := (owned_ge h ad rfl).1
    cases A1 with
    | none => simp [Value.ownBlock]
    | some ad1 =>
      have h2 := hb ad1 rfl
      simp [Value.ownBlock]
      omega
theorem wpList_want {P : Program} {ops : Array Oper} {Q : Exit → Act → World → Prop} {a : Act} {w : World} {rest : List Oper} {o : Oper} (hw : Region.wanted o (yielded ops a.tmps) = true)
    (h : ∀ K : Act → World → Prop, (∀ a w, wpList P ops Q rest a w → K a w) → o.wp P a w K Q) : wpList P ops Q (o :: rest) a w :=
  wpList_step fun K hK => by rw [if_pos hw]; exact h K hK
/-- Rows appended to a row of the call's own, behind a guard. -/
theorem app_rws_g {w : World} {ops : Array Oper} {rest : List Oper} {o : Oper} {a : Act} {Q : Exit → Act → World → Prop} (s x : Operand)
    (hgd : Region.wanted o (yielded ops a.tmps) = true) (ho : o.op = .call { callee := .builtin .append, args := #[s, x], argTypes := #[22, 22] }) (base n c m d l : Nat) (A A' : Option Addr) (xs ys : List Tk) (hs : a.eval s = .slice A n c) (hx : a.eval x = .slice A' m d)
    (hown : OwnR w 26 base A n c xs) (hy : ys.length = m) (R : RR w A' d ys) (hl : n + m = l) (h63 : l ≤ 1000000) (hbase : base ≤ w.heap.size)
    (h : ∀ A2 c2 w', OwnR w' 26 base A2 l c2 (xs ++ ys) → w.grownBy w' (Value.slice A n c).ownBlock → wpList Tryd.prog ops Q rest (a.put o.dst (.slice A2 l c2)) w') : wpList Tryd.prog ops Q (o :: rest) a w := by
  subst hl
  refine wpList_want hgd fun K hK => ?_
  unfold Oper.wp execOp
  rcases Nat.eq_zero_or_pos m with hm0 | hm0
  · subst hm0
    obtain rfl : ys = [] := List.eq_nil_of_length_eq_zero hy
    simp only [ho, resolve, invoke, builtin, Sem.run_bind, Sem.run_pure, Result.andThen_ok, List.map_toArray, List.map_cons, List.map_nil, hs, hx, run_rws_none hown]
    exact hK _ _ (h A c w (by rw [List.append_nil]; exact hown) (World.grownBy.refl w _))
  · obtain ⟨A2, c2, w', hr, h1, h2⟩ := run_rws (ty := o.type) hown hy hm0 R h63 hbase
    simp only [ho, resolve, invoke, builtin, Sem.run_bind, Sem.run_pure, Result.andThen_ok, List.map_toArray, List.map_cons, List.map_nil, hs, hx, hr]
    exact hK _ _ (h A2 c2 w' h1 h2)
/-- Three lists that were read, one behind the other. -/
def Jn (w X : World) (A1 : Option Addr) (c1 : Nat) (l : List Tk) (A2 : Option Addr) (c2 : Nat) (m : List Tk) (A3 : Option Addr) (n3 c3 : Nat) (t : List Tk) : Prop :=
  Below w.heap.size w X ∧ W1.Tab X ∧ OwnR X 26 w.heap.size A1 l.length c1 l ∧ RR X A2 c2 m ∧ ∃ B, w.heap.size ≤ B ∧ (∀ ad, A1 = some ad → ad.block < B) ∧ OwnR X 26 B A3 n3 c3 t
set_option maxRecDepth 100000 in
set_option maxHeartbeats 16000000 in
theorem walkLexJoins (a0 : ByteArray) (w0 : a0.size ≤ maxLen) (a1 : ByteArray) (w1 : a1.size ≤ 140737488351232) (w : World) (ht : W1.Tab w) :
    Calls Tryd.prog 6 #[.string a0, .string a1] w fun e w' => e = .returned (.bool true) ∧ Below w.heap.size w w' := by
  obtain ⟨a, rfl⟩ : ∃ l : Bs, a0 = strOf l := ⟨_, str_self a0⟩
  obtain ⟨b, rfl⟩ : ∃ l : Bs, a1 = strOf l := ⟨_, str_self a1⟩
  have hsa := size_strOf a
  have hsb := size_strOf b
  rw [hsa] at w0
  rw [hsb] at w1
  have CA := Lib.hid (fun (W : World) (h : W1.Tab W) => awake_any W h)
  have HT := Lib.hid (fun (X : World) (b : Below w.heap.size w X) => ht.below b)
  rcases tokens_ways a with ⟨_, htk⟩ | ⟨_, p, _, htk⟩ | ⟨h256, l, hl, htk⟩
  · have C1 := Lib.hid (Tokens_at w0 w ht htk)
    clear ht w0 w1 htk
    generalize strOf a = SA at *
    generalize strOf b = SB at *
    go_enter Tryd.func6, Tryd.ntmps6
    go_wp2_with (first
      | (go_at_call 12; (with_reducible refine (C1.out).mono ?_); rintro e v1 ⟨A1, c1, rfl, h1, h2⟩; have H1 := Lib.hid h2; clear h1 h2)
      | (go_at_call 9; (with_reducible refine (CA.out _ (HT.out _ H1.out)).mono ?_); rintro e v5 ⟨rfl, b⟩; have HB := Lib.hid (blw H1.out b); clear b))
    go_ret
    exact ⟨rfl, HB.out⟩
  · have C1 := Lib.hid (Tokens_at w0 w ht htk)
    clear ht w0 w1 htk
    generalize strOf a = SA at *
    generalize strOf b = SB at *
    go_enter Tryd.func6, Tryd.ntmps6
    go_wp2_with (first
      | (go_at_call 12; (with_reducible refine (C1.out).mono ?_); rintro e v1 ⟨A1, c1, rfl, h1, h2⟩; have H1 := Lib.hid h2; clear h1 h2)
      | (go_at_call 9; (with_reducible refine (CA.out _ (HT.out _ H1.out)).mono ?_); rintro e v5 ⟨rfl, b⟩; have HB := Lib.hid (blw H1.out b); clear b))
    go_ret
    exact ⟨rfl, HB.out⟩
  · obtain ⟨na, hna⟩ : ∃ n, a.length = n := ⟨_, rfl⟩
    obtain ⟨nb, hnb⟩ : ∃ n, b.length = n := ⟨_, rfl⟩
    have C1 := Lib.hid (Tokens_at w0 w ht htk)
    have j := joined (b := b) hl
    rw [hna] at j hsa w0 h256
    rw [hnb] at hsb w1
    have na0 : (0 : Int) ≤ (na : Int) := by omega
    have na1 : (na : Int) ≤ 256 := by omega
    have nb0 : (0 : Int) ≤ (nb : Int) := by omega
    have OL := okl_may (toks_may _ a 0 l (Nat.le_refl _) (by omega) hl)
    by_cases hbig : (256 : Int) < (na : Int) + 1 + (nb : Int)
    · have qb : decide ((256 : Int) < (na : Int) + 1 + (nb : Int)) = true := decide_eq_true hbig
      clear ht htk hl h256 j hna hnb OL
      generalize l.length = k at *
      generalize strOf a = SA at *
      generalize strOf b = SB at *
      go_enter Tryd.func6, Tryd.ntmps6
      go_wp2_with (first
        | (go_at_call 12; (with_reducible refine (C1.out).mono ?_); rintro e v1 ⟨A1, c1, rfl, h1, h2⟩; have H1 := Lib.hid h2; clear h1 h2)
        | (go_at_call 9; (with_reducible refine (CA.out _ (HT.out _ H1.out)).mono ?_); rintro e v5 ⟨rfl, b⟩; have HB := Lib.hid (blw H1.out b); clear b))
      go_ret
      exact ⟨rfl, HB.out⟩
    · have qb : decide ((256 : Int) < (na : Int) + 1 + (nb : Int)) = false := decide_eq_false hbig
      have nb1 : (nb : Int) ≤ 256 := by omega
      have t1 : Op.stringOp .add (strOf a) ⟨#[32]⟩ = pure (.string (strOf (a ++ [32]))) := cat_str a [32] (by simp; omega)
      have t2 : Op.stringOp .add (strOf (a ++ [32])) (strOf b) = pure (.string (strOf (a ++ 32 :: b))) := by
        rw [cat_str (a ++ [32]) b (by simp; omega), List.append_assoc]; rfl
      have hlj : (a ++ 32 :: b).length ≤ 256 := by rw [List.length_append, List.length_cons]; omega
      rcases tokens_ways b with ⟨hx, _⟩ | ⟨_, p, hp, htb⟩ | ⟨_, m, hm, htb⟩
      · exfalso; omega
      · rw [hp] at j
        have htj : tokens (a ++ 32 :: b) = ([], ((p + (na + 1) : Nat) : Int), 80) := tokens_err (by omega) j
        have e1 : ((p + (na + 1) : Nat) : Int) = (na : Int) + 1 + (p : Int) := by omega
        rw [e1] at htj
        have hpn : p ≤ 256 := by
          by_cases h : p ≤ 256
          · exact h
          · exfalso
            have := Int.natCast_nonneg p
            have h3 := toks_err_le _ b 0 p (Nat.le_refl _) hp
            omega
        have p0 : (0 : Int) ≤ (p : Int) := by omega
        have p1 : (p : Int) ≤ 256 := by omega
        have C2 := Lib.hid (fun (X : World) (h : W1.Tab X) => Tokens_at (by unfold maxLen; omega) X h htb)
        have C3 := Lib.hid (fun (X : World) (h : W1.Tab X) => Tokens_at (by unfold maxLen; omega) X h htj)
        have q1 : ((na : Int) + 1 + (p : Int) == (na : Int) + 1 + (p : Int)) = true := by simp
        clear ht htk hl h256 j hna hnb OL hp htb htj e1 hlj hbig
        generalize l.length = k at *
        generalize strOf (a ++ 32 :: b) = SJ at *
        generalize strOf (a ++ [32]) = SK at *
        generalize strOf a = SA at *
        generalize strOf b = SB at *
        go_enter Tryd.func6, Tryd.ntmps6
        go_wp2_with (first
          | (go_at_call 12; (with_reducible refine (C1.out).mono ?_); rintro e v1 ⟨A1, c1, rfl, h1, h2⟩; have H1 := Lib.hid h2; clear h1 h2 C1)
          | (go_at_call 12; (with_reducible refine (C2.out _ (HT.out _ H1.out)).mono ?_); rintro e v2 ⟨A2, c2, rfl, h1, h2⟩; have H2 := Lib.hid (blw H1.out h2); clear h1 h2 C2 H1)
          | (go_at_call 12; (with_reducible refine (C3.out _ (HT.out _ H2.out)).mono ?_); rintro e v3 ⟨A3, c3, rfl, h1, h2⟩; have H3 := Lib.hid (blw H2.out h2); clear h1 h2 C3)
          | (go_at_call 9; (with_reducible refine (CA.out _ (HT.out _ H3.out)).mono ?_); rintro e v5 ⟨rfl, b⟩; have HB := Lib.hid (blw H3.out b); clear b))
        go_ret
        exact ⟨rfl, HB.out⟩
      · rw [hm] at j
        have htj : tokens (a ++ 32 :: b) = (l ++ m.map (shift (na + 1)), 0, 0) := tokens_ok (by omega) j
        have OM := okl_may (toks_may _ b 0 m (Nat.le_refl _) (by omega) hm)
        have OJ := okl_may (toks_may _ (a ++ 32 :: b) 0 _ (Nat.le_refl _) (by omega) j)
        have hkl : l.length ≤ 256 := by have := toks_len_le _ a 0 l (Nat.le_refl _) hl; omega
        have hkm : m.length ≤ 256 := by have := toks_len_le _ b 0 m (Nat.le_refl _) hm; omega
        have hkk : kern (l ++ m.map (shift (na + 1))) = kern (l ++ m) := by rw [kern_app, kern_app, kern_shift]
        have hlen : (l ++ m.map (shift (na + 1))).length = l.length + m.length := by simp
        have C2 : Hid (∀ (X : World) (A1 : Option Addr) (c1 : Nat) (h : Below w.heap.size w X ∧ OwnR X 26 w.heap.size A1 l.length c1 l), Calls Tryd.prog 12 #[.string (strOf b)] X fun en w' => ∃ A2 c2, en = .returned (.tuple #[.slice A2 m.length c2, .int .i64 0, .int .i64 0]) ∧ (Below w.heap.size w w' ∧ OwnR w' 26 w.heap.size A1 l.length c1 l) ∧ RR w' A2 c2 m) := Lib.hid fun X A1 c1 h => (Tokens_at (by unfold maxLen; omega) X (HT.out _ h.1) htb).mono fun e w' ⟨A2, c2, h1, h2, h3⟩ => ⟨A2, c2, h1, ⟨blw h.1 h3, h.2.keep h3⟩, h2.rr OM⟩
        have C3 : Hid (∀ (X : World) (A1 A2 : Option Addr) (c1 c2 : Nat) (h : (Below w.heap.size w X ∧ OwnR X 26 w.heap.size A1 l.length c1 l) ∧ RR X A2 c2 m), Calls Tryd.prog 12 #[.string (strOf (a ++ 32 :: b))] X fun en w' => ∃ A3 c3, en = .returned (.tuple #[.slice A3 (l.length + m.length) c3, .int .i64 0, .int .i64 0]) ∧ Jn w w' A1 c1 l A2 c2 m A3 (l.length + m.length) c3 (l ++ m.map (shift (na + 1)))) := Lib.hid fun X A1 A2 c1 c2 h => (Tokens_at (by unfold maxLen; omega) X (HT.out _ h.1.1) htj).mono fun e w' ⟨A3, c3, h1, h2, h3⟩ => by
          rw [hlen] at h1 h2
          exact ⟨A3, c3, h1, blw h.1.1 h3, HT.out _ (blw h.1.1 h3), h.1.2.keep h3, h.2.keep h3, X.heap.size, h.1.1.size, fun ad e => (owned_ge h.1.2 ad e).2.1, h2⟩
        have HF : Hid (∀ (X Y : World) (A1 A2 A3 A4 : Option Addr) (c1 c2 c3 c4 : Nat) (h : Jn w X A1 c1 l A2 c2 m A3 (l.length + m.length) c3 (l ++ m.map (shift (na + 1)))) (o : OwnR Y 26 w.heap.size A4 (l.length + m.length) c4 (l ++ m)) (g : X.grownBy Y (Value.slice A1 l.length c1).ownBlock), (Below w.heap.size w Y) ∧ RR Y A3 c3 (l ++ m.map (shift (na + 1))) ∧ RR Y A4 c4 (l ++ m)) := Lib.hid fun X Y A1 A2 A3 A4 c1 c2 c3 c4 h o g => by
          obtain ⟨h1, h2, h3, h4, B, h5, h6, h7⟩ := h
          exact ⟨bgrow h1 h3 (Nat.le_refl _) g, (h7.keepR g h6).rr OJ, o.rr (OL.app OM)⟩
        have CS : Hid (∀ (X : World) (A3 A4 : Option Addr) (c3 c4 : Nat) (h : (Below w.heap.size w X) ∧ RR X A3 c3 (l ++ m.map (shift (na + 1))) ∧ RR X A4 c4 (l ++ m)), Calls Tryd.prog 13 #[.slice A3 (l.length + m.length) c3, .slice A4 (l.length + m.length) c4] X fun e w' => e = .returned (.bool true) ∧ Below X.heap.size X w') := Lib.hid fun X A3 A4 c3 c4 h => by
          have := RSame_any h.2.1 h.2.2 hlen (by rw [List.length_append])
          rwa [decide_eq_true hkk] at this
        have q1 : (l.length : Int) + (m.length : Int) ≤ 512 := by omega
        have HL := Lib.hid (And.intro hkl hkm)
        clear ht htk hl h256 j hna hnb OL OM OJ hm htb htj hlj hbig hkk hlen hkl hkm
        generalize hk : l.length = k at *
        generalize hk2 : m.length = k2 at *
        have HK := Lib.hid (And.intro hk hk2)
        clear hk hk2
        generalize strOf (a ++ 32 :: b) = SJ at *
        generalize strOf (a ++ [32]) = SK at *
        generalize strOf a = SA at *
        generalize strOf b = SB at *
        go_enter Tryd.func6, Tryd.ntmps6
        go_wp2_with (first
          | (go_at_call 12; (with_reducible refine (C1.out).mono ?_); rintro e v1 ⟨A1, c1, rfl, h1, h2⟩; have H1 := Lib.hid (And.intro h2 h1); clear h1 h2 C1)
          | (go_at_call 12; (with_reducible refine (C2.out _ _ _ H1.out).mono ?_); rintro e v2 ⟨A2, c2, rfl, h1⟩; have H2 := Lib.hid h1; clear h1 C2 H1)
          | (go_at_call 12; (with_reducible refine (C3.out _ _ _ _ _ H2.out).mono ?_); rintro e v3 ⟨A3, c3, rfl, h1⟩; have H3 := Lib.hid h1; clear h1 C3)
          | (at_builtin; (refine app_rws_g (.tmp 80) (.tmp 81) rfl rfl w.heap.size k c1 k2 c2 (k + k2) A1 A2 l m rfl rfl (by have h := H3.out.2.2.1; rw [HK.out.1] at h; exact h) HK.out.2 H3.out.2.2.2.1 rfl (by have := HL.out; omega) H3.out.1.size ?_; intro A4 c4 v4 o2 g2; have H4 := Lib.hid (HF.out _ _ _ _ _ _ _ _ _ _ H3.out o2 g2); clear o2 g2))
          | (go_at_call 13; (with_reducible refine (CS.out _ _ _ _ _ H4.out).mono ?_); rintro e v5 ⟨rfl, b⟩; have H5 := Lib.hid (blw H4.out.1 b); clear b)
          | (go_at_call 9; (with_reducible refine (CA.out _ (HT.out _ H5.out)).mono ?_); rintro e v6 ⟨rfl, b⟩; have HB := Lib.hid (blw H5.out b); clear b))
        go_ret
        exact ⟨rfl, HB.out⟩
end Go.Proofs.YtldnmdadlgjbgaaDoor
