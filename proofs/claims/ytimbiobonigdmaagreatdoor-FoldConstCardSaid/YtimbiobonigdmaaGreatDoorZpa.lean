/- The reference's way of finding what a name means, beside the environments' own. Plain Lean. -/
import Derived.Test.YtimbiobonigdmaaGreatDoorFob
set_option linter.unusedVariables false
set_option linter.unusedSimpArgs false
namespace Go.Proofs.YtimbiobonigdmaaGreatDoor.L14
open Go L8 L10

/-- The last of the first n specifications that declares a name. -/
def fndN (l : List Sp) (s : Bs) : Nat → Option Nat
  | 0 => none
  | n + 1 => if s ∈ (l.getD n sp0).ns then some n else fndN l s n
def atI : Option Nat → Int
  | none => -1
  | some a => (a : Int)
def prefM (l : List Sp) (n : Nat) : Mg := mgS (l.take n).reverse
/-- The value of a specification in the part of the environment before it. -/
def entV (l : List Sp) (i : Nat) : Option Int := (entS (prefM l i) (l.getD i sp0)).2
theorem pref_succ {l : List Sp} {n : Nat} (h : n < l.length) : prefM l (n + 1) = mgS (l.getD n sp0 :: (l.take n).reverse) := by
  unfold prefM
  rw [List.take_succ_eq_append_getElem h, List.reverse_append, List.getD_eq_getElem?_getD, List.getElem?_eq_getElem h]
  rfl
theorem fnd_lt {l : List Sp} {s : Bs} : ∀ {n a : Nat}, fndN l s n = some a → a < n
  | 0, a, h => by cases h
  | n + 1, a, h => by
    rw [fndN] at h
    by_cases hs : s ∈ (l.getD n sp0).ns
    · rw [if_pos hs] at h; injection h with h; omega
    · rw [if_neg hs] at h; have := fnd_lt h; omega
theorem pref_find (l : List Sp) (s : Bs) : ∀ n, n ≤ l.length → prefM l n s = (fndN l s n).map fun a => entS (prefM l a) (l.getD a sp0)
  | 0, _ => rfl
  | n + 1, h => by
    rw [pref_succ (by omega), fndN]
    by_cases hs : s ∈ (l.getD n sp0).ns
    · rw [if_pos hs, mgS_in hs]; rfl
    · rw [if_neg hs, mgS_out hs]; exact pref_find l s n (by omega)
theorem pref_all (l : List Sp) : prefM l l.length = mgS l.reverse := by unfold prefM; rw [List.take_length]
theorem ent_1 (m : Mg) (x : Sp) : (entS m x).1 = x := rfl
theorem rho_find {l : List Sp} {n : Nat} (h : n ≤ l.length) (s : Bs) : rho (prefM l n) s = (fndN l s n).bind (entV l) := by
  unfold rho
  rw [pref_find l s n h]
  cases fndN l s n <;> rfl
theorem sig_find {l : List Sp} {n : Nat} (h : n ≤ l.length) (s : Bs) : sig (prefM l n) s = (fndN l s n).bind fun a => szS (l.getD a sp0) := by
  unfold sig
  rw [pref_find l s n h]
  cases fndN l s n <;> rfl
theorem tau_find {l : List Sp} {n a : Nat} (h : n ≤ l.length) {s : Bs} (hs : fndN l s n = some a) : tau (prefM l n) s = (l.getD a sp0).t := by
  unfold tau
  rw [pref_find l s n h, hs]
  rfl
theorem entV_is (l : List Sp) (i : Nat) : entV l i = if vald (l.getD i sp0) = true then vOf (prefM l i) (l.getD i sp0).e else none := rfl
/-! ### One step of the value -/
theorem v_lit (m : Mg) (k : Nat) (n : Int) (h : k = 1 ∨ k = 2 ∨ k = 3) : vOf m (.mk k 0 0 n [] []) = some n := by
  unfold vOf
  rw [valE_eq]
  unfold valO
  exact if_pos h
theorem v_name (m : Mg) (s : Bs) : vOf m (.mk 4 0 0 0 s []) = rho m s := by unfold vOf; rw [valE_eq]; rfl
theorem v_size (m : Mg) (s : Bs) : vOf m (.mk 9 0 0 0 s []) = sig m s := by unfold vOf; rw [valE_eq]; rfl
theorem v_index (m : Mg) (s : Bs) (y : Ex) : vOf m (.mk 5 0 0 0 s [y]) = none := by unfold vOf; rw [valE_eq]; rfl
theorem v_mon (m : Mg) (o : Nat) (y : Ex) : vOf m (.mk 6 o 0 0 [] [y]) = (vOf m y).bind fun a => apO o a 0 := by
  unfold vOf
  rw [valE_eq]
  show (ops2 (valL (rho m) (sig m) [y])).bind (fun p => apO o p.1 p.2) = _
  rw [valL, valL]
  cases valE (rho m) (sig m) y <;> rfl
theorem v_dy (m : Mg) (o : Nat) (y z : Ex) : vOf m (.mk 7 o 0 0 [] [y, z]) = (vOf m y).bind fun a => (vOf m z).bind fun b => apO o a b := by
  unfold vOf
  rw [valE_eq]
  show (ops2 (valL (rho m) (sig m) [y, z])).bind (fun p => apO o p.1 p.2) = _
  rw [valL, valL, valL]
  cases valE (rho m) (sig m) y <;> cases valE (rho m) (sig m) z <;> rfl
theorem v_conv (m : Mg) (t : Nat) (y : Ex) : vOf m (.mk 8 0 t 0 [] [y]) = (vOf m y).bind (conO t) := by
  unfold vOf
  rw [valE_eq]
  show (hd1 (valL (rho m) (sig m) [y])).bind (conO t) = _
  rw [valL, valL]
  cases valE (rho m) (sig m) y <;> rfl
end Go.Proofs.YtimbiobonigdmaaGreatDoor.L14
