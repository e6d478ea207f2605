/- Places as keys of a map: what a key reads as, and that two places have one key just if they are one. Condition: small rows and columns. -/
import Derived.Test.YtjmfffgddmnkmabPo
import Derived.DeepKeys4
import Derived.Maps.RangeWalk
import Derived.Maps.OwnOps
import Derived.WideKeyEntry
namespace Go.Proofs.Ytjmfffgddmnkmab
open Go Go.RowKit Go.Maps

theorem laidOutP : laidOutB Try.prog = true := by kernel_rfl
theorem rowPl : (109 : TypeId) < Try.prog.types.size := of_decide_eq_true (by kernel_rfl)
theorem widePl : (match Try.prog.underlying 109 with | some (.array _ _) | some (.struct _) => true | _ => false) = true := by rw [Try.underlying109]
set_option maxRecDepth 100000 in
theorem lawPl : WideMaps.KeyLaw Try.prog 109 := deep_law_laid laidOutP (m := 2) (by omega) rowPl (by kernel_rfl) widePl
theorem keyedPl : Keyed Try.prog 109 := Keyed.of_law lawPl

/-- the place r, c as a value -/
def atV (r c : Nat) : Value := .agg #[.int .i64 r, .int .i64 c]
/-- what it reads as, as a key -/
def pk (r c : Nat) : Lit := .string (keyBytes [.int .i64 r, .int .i64 c])

set_option maxRecDepth 100000 in
theorem key_same : ∀ r c : Fin 8, (match keyOf Try.prog 109 (atV r c) with | some (.string bs) => bs == keyBytes [.int .i64 (r : Nat), .int .i64 (c : Nat)] | _ => false) = true := by
  decide +kernel

set_option maxRecDepth 100000 in
theorem key_pk {r c : Nat} (hr : r < 8) (hc : c < 8) : keyOf Try.prog 109 (atV r c) = some (pk r c) := by
  have h := key_same ⟨r, hr⟩ ⟨c, hc⟩
  unfold pk
  change (match keyOf Try.prog 109 (atV r c) with | some (.string bs) => bs == keyBytes [.int .i64 (r : Nat), .int .i64 (c : Nat)] | _ => false) = true at h
  split at h
  · rename_i bs e
    rw [e, eq_of_beq h]
  · cases h

theorem atV_inj {r c a b : Nat} (h : atV r c = atV a b) : r = a ∧ c = b := by
  unfold atV at h
  simp only [Value.agg.injEq, Array.mk.injEq, List.cons.injEq, Value.int.injEq, true_and, and_true] at h
  omega
theorem pk_inj {r c a b : Nat} (hr : r < 8) (hc : c < 8) (ha : a < 8) (hb : b < 8) (h : pk r c = pk a b) : r = a ∧ c = b :=
  atV_inj (keyedPl.inj (key_pk hr hc) (h ▸ key_pk ha hb))
theorem pk_key {r c : Nat} (hr : r < 8) (hc : c < 8) : WideAt.IsKeyLit (pk r c) := keyedPl.key (key_pk hr hc)

end Go.Proofs.Ytjmfffgddmnkmab
