/- Plain facts on cells by a rule: the number 1, cells that are left out, the cell of an opening. Condition: none. -/
import Derived.Test.YtdmeinaonliphabM19
namespace Go.Proofs.Ytdmeinaonliphab
open Go Go.RowKit

/-- the number 1 as a cell -/
def one32 : Nat × Nat := (1065353216, 0)
def mark (b : Bool) : Nat × Nat := if b then one32 else (0, 0)
theorem mark_fin (b : Bool) : (fin (mark b).1 && fin (mark b).2) = true := by cases b <;> decide
theorem gf_skip (F : Nat → Nat × Nat) (k : Nat) (h : F k = (0, 0)) : gf F k = gf F (k + 1) := by
  apply Array.ext_getElem?
  intro i
  rw [gf_get, gf_get]
  by_cases e : i = k
  · subst e
    simp [h]
  · have : (i < k + 1) = (i < k) := by apply propext; omega
    simp [this]
theorem gf_skips (F : Nat → Nat × Nat) (a b : Nat) (hab : a ≤ b) (h : ∀ i, a ≤ i → i < b → F i = (0, 0)) : gf F a = gf F b := by
  induction b with
  | zero => rw [show a = 0 by omega]
  | succ b ih =>
    by_cases e : a = b + 1
    · rw [e]
    · rw [ih (by omega) (fun i h1 h2 => h i h1 (by omega)), gf_skip F b (h b (by omega) (by omega))]
theorem gf_wav_one (s : Int) (F : Nat → Nat × Nat) (k : Nat) : (pic s (gf F k)).all (·.oneCell') = true := by
  rw [Array.all_eq_true_iff_forall_mem]
  intro v hv
  obtain ⟨i, hi, he⟩ := Array.mem_iff_getElem.1 hv
  have h := Array.getElem?_eq_getElem hi
  rw [he] at h
  cases i with
  | zero => rw [pic_zero] at h; cases h; rfl
  | succ i =>
    rw [pic_succ, gf_get] at h
    split at h
    · cases h
      split <;> rfl
    · cases h
theorem gf_cells (F : Nat → Nat × Nat) (hF : ∀ i, (fin (F i).1 && fin (F i).2) = true) (k : Nat) : Cells (gf F k) := by
  refine ⟨gf_size _ _, fun i hi => ?_⟩
  have h := hF i
  rw [Bool.and_eq_true] at h
  by_cases hk : i < k
  · exact ⟨_, _, h.1, h.2, by rw [gf_get, if_pos hi, if_pos hk]⟩
  · exact ⟨0, 0, by decide, by decide, by rw [gf_get, if_pos hi, if_neg hk]⟩
theorem zc_cells3 : Cells zc := by
  rw [← gf_zero (fun _ => (0, 0))]
  exact gf_cells _ (fun _ => by decide) 0
/-- row and column of a place -/
theorem place_at (s y x : Nat) (hx : x < s) : (s * y + x) / s = y ∧ (s * y + x) % s = x := by
  have h0 : 0 < s := by omega
  refine ⟨?_, ?_⟩
  · rw [Nat.mul_add_div h0, Nat.div_eq_of_lt hx, Nat.add_zero]
  · rw [Nat.mul_add_mod, Nat.mod_eq_of_lt hx]

/-- the cell of an opening -/
theorem cell_any (b : Bool) (w : World) : Calls Try.prog 39 #[.bool b] w fun e w' => e = .returned (.complex .f32 (mark b).1 (mark b).2) ∧ w = w' := by
  cases b
  · go_enter Try.func39, Try.ntmps39
    go_wp2
    go_ret
    exact ⟨rfl, rfl⟩
  · go_enter Try.func39, Try.ntmps39
    go_wp2
    go_ret
    exact ⟨rfl, rfl⟩

theorem results_row_one {P : Program} {fn : Func} {p : Tmp} {ty : TypeId} (h : fn.results = #[.cell p ty]) (tmps : Array Value) (w : World) (g : Nat) (t : TypeId) (cs : Array Value) (fr : Nat × Nat) (d : TypeDesc)
    (hp : tmps.getD p undef = .pointer (some ⟨g, 0, none⟩)) (hg : w.heap[g]? = some (.cells cs t fr))
    (hu : P.underlying ty = some d) (hd : (match d with | .struct _ | .array _ _ => true | _ => false) = true) (hi : (P.info? ty).map (·.size) = some cs.size) :
    (results fn tmps).run P w = .ok (.agg cs) w := by
  have hp' : tmps[p]?.getD undef = .pointer (some ⟨g, 0, none⟩) := by simpa using hp
  simp only [results, h]
  simp [asAddr, hp', run_loadVar_row w g t ty cs fr d hg hu hd hi]

/-- a store of a function -/
@[go_sem] theorem run_store_func (P : Program) (w : World) (a : Addr) (m : Mode) (f : Fn) (x y : Array Value) : (store a (.func f x y) m).run P w = stored P w a (.func f x y) m := run_store P w a _ m rfl
end Go.Proofs.Ytdmeinaonliphab
