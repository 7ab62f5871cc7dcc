/- What FoldChain says, of the pure functions. -/
import Derived.Test.YtimbiobonigdmaaDoorFsa
import Derived.Test.YtimbiobonigdmaaDoorFpa
set_option linter.unusedVariables false
set_option linter.unusedSimpArgs false
namespace Go.Proofs.YtimbiobonigdmaaDoor
open Go L8 L10 L14

/-- The name of the n-th constant that doubles. -/
def nmD (n : Nat) : Bs := [120, UInt8.ofNat (97 + n / 26), UInt8.ofNat (97 + n % 26)]
def lastD (v : Int) : Nat → Ex
  | 0 => litE 1 v
  | n + 1 => nameE (nmD n)
def wantD (v : Int) : Nat → Int
  | 0 => v
  | n + 1 => w32 (wantD v n + wantD v n)
/-- The constants that double, the innermost first. -/
def chD (v : Int) : Nat → List Sp
  | 0 => []
  | n + 1 => valS (nmD n) (twoE 6 (lastD v n) (lastD v n)) :: chD v n
def cntE (v : Int) : Nat → Ex
  | 0 => litE 1 v
  | n + 1 => twoE 6 (nameE nB) (litE 1 1)
/-- The constants that count, the innermost first. -/
def chC (v : Int) : Nat → List Sp
  | 0 => []
  | n + 1 => valS nB (cntE v n) :: chC v n
def cntD (v : Int) : Nat → Int
  | 0 => v
  | n + 1 => w32 (cntD v n + 1)
theorem nmD_may : ∀ n, n < 200 → mayE (nameE (nmD n)) = true ∧ mayE (twoE 6 (nameE (nmD n)) (nameE (nmD n))) = true := by decide +kernel
theorem nmD_len (n : Nat) : (nmD n).length ≤ maxLen := by show 3 ≤ maxLen; decide
theorem two_lit_may (v : Int) : mayE (twoE 6 (litE 1 v) (litE 1 v)) = true := rfl
theorem lastD_may (v : Int) : ∀ n, n ≤ 200 → mayE (lastD v n) = true
  | 0, _ => lit1_may v
  | n + 1, h => (nmD_may n (by omega)).1
theorem two_last_may (v : Int) : ∀ n, n < 200 → mayE (twoE 6 (lastD v n) (lastD v n)) = true
  | 0, _ => two_lit_may v
  | n + 1, h => (nmD_may n (by omega)).2
theorem cntE_may (v : Int) : ∀ n, mayE (cntE v n) = true
  | 0 => lit1_may v
  | n + 1 => by show mayE (twoE 6 (nameE nB) (litE 1 1)) = true; decide +kernel
theorem name_val (m : Mg) (s : Bs) : vOf m (nameE s) = rho m s := rfl
theorem two_val (m : Mg) (y z : Ex) {a b : Int} (ha : vOf m y = some a) (hb : vOf m z = some b) : vOf m (twoE 6 y z) = some (w32 (a + b)) := by
  show (ops2 [vOf m y, vOf m z]).bind (fun p => apO 6 p.1 p.2) = _
  rw [ha, hb]
  rfl
theorem rho_in {x : Sp} {r : List Sp} {s : Bs} {v : Int} (h : s ∈ x.ns) (hv : vald x = true) (h2 : vOf (mgS r) x.e = some v) : rho (mgS (x :: r)) s = some v := by
  unfold rho
  rw [mgS_in h]
  show (entS (mgS r) x).2 = some v
  unfold entS
  rw [if_pos hv]
  exact h2
theorem vald_val {s : Bs} {e : Ex} (h : mayE e = true) : vald (valS s e) = true := by
  show (decide (2 = 2) && mayE e) = true
  rw [h]; rfl
theorem chain_dbl (v : Int) : ∀ n, n ≤ 200 → vOf (mgS (chD v n)) (lastD v n) = some (wantD v n)
  | 0, _ => rfl
  | n + 1, h => by
    have ih := chain_dbl v n (by omega)
    show vOf (mgS (chD v (n + 1))) (nameE (nmD n)) = _
    rw [name_val]
    exact rho_in (List.mem_singleton.2 rfl) (vald_val (two_last_may v n (by omega))) (two_val _ _ _ ih ih)
theorem chain_cnt (v : Int) : ∀ n, rho (mgS (chC v (n + 1))) nB = some (cntD v n)
  | 0 => rho_in (List.mem_singleton.2 rfl) (vald_val (cntE_may v 0)) rfl
  | n + 1 => by
    refine rho_in (List.mem_singleton.2 rfl) (vald_val (cntE_may v (n + 1))) ?_
    exact two_val _ _ _ ((name_val _ _).trans (chain_cnt v n)) rfl
theorem cntD_is (v : Int) (hv : inW v) : ∀ n, cntD v n = w32 (v + n)
  | 0 => by show v = _; unfold inW at hv; unfold w32; omega
  | n + 1 => by
    rw [cntD, cntD_is v hv n]
    unfold w32
    push_cast
    omega
theorem dbl_const (v : Int) (n : Nat) (h : n ≤ 200) : constX (lastD v n) (chD v n) = (wantD v n, 0) := by
  rw [constX_of (lastD_may v n h), chain_dbl v n h]
  rfl
theorem cnt_const (v : Int) (hv : inW v) (n : Nat) : constX (nameE nB) (chC v (n + 1)) = (w32 (v + n), 0) := by
  rw [constX_of (by decide +kernel), name_val, chain_cnt v n, cntD_is v hv n]
  rfl
theorem wantD_in (v : Int) (hv : inW v) : ∀ n, inW (wantD v n)
  | 0 => hv
  | n + 1 => by show inW (w32 _); unfold inW w32; omega
end Go.Proofs.YtimbiobonigdmaaDoor
