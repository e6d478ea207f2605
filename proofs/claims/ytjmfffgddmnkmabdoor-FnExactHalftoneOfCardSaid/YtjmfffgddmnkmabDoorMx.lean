/- The top and the bottom of a picture, in the program and in the model. Condition: 64 floats that are a picture's. -/
import Derived.Test.YtjmfffgddmnkmabDoorQg
import Derived.Test.YtjmfffgddmnkmabDoorSSt
import Derived.Deep.QuietTactic
import Derived.BigQuiet
namespace Go.Proofs.YtjmfffgddmnkmabDoor
open Go Go.RowKit

theorem bitsAt_lt (zs : Array Value) (hz : Floats zs) (k : Nat) (hk : k < 64) : bitsAt zs k < 4294967296 ∧ zs[k]? = some (.float .f32 (bitsAt zs k)) := by
  obtain ⟨x, hx, h⟩ := hz.2 k hk
  rw [bitsAt_of zs k x h]
  exact ⟨hx, h⟩
/-- the greatest of the first k + 1 levels, as the builtin finds it; the least -/
def mxP (zs : Array Value) : Nat → Nat
  | 0 => bitsAt zs 0
  | k + 1 => mx2 (mxP zs k) (bitsAt zs (k + 1))
def mnP (zs : Array Value) : Nat → Nat
  | 0 => bitsAt zs 0
  | k + 1 => mn2 (mnP zs k) (bitsAt zs (k + 1))
/-- the same as tests find them -/
def topS (zs : Array Value) : Nat → Nat
  | 0 => bitsAt zs 0
  | k + 1 => up2 (topS zs k) (bitsAt zs (k + 1))
def botS (zs : Array Value) : Nat → Nat
  | 0 => bitsAt zs 0
  | k + 1 => lo2 (botS zs k) (bitsAt zs (k + 1))
/-- a number among the levels -/
def Lev (zs : Array Value) (x : Nat) : Prop := ∃ k, k < 64 ∧ x = bitsAt zs k
theorem lev_fin (s : Int) (zs : Array Value) (h : shown s zs = true) (x : Nat) (hx : Lev zs x) : fin x = true ∧ ltz x = false := by
  obtain ⟨k, hk, rfl⟩ := hx
  exact shown_level s zs h k hk
theorem lev_lt (zs : Array Value) (hz : Floats zs) (x : Nat) (hx : Lev zs x) : x < 4294967296 := by
  obtain ⟨k, hk, rfl⟩ := hx
  exact (bitsAt_lt zs hz k hk).1
theorem ends_both (s : Int) (zs : Array Value) (hz : Floats zs) (h : shown s zs = true) : ∀ k, k < 64 → (zeq (mxP zs k) (topS zs k) ∧ Lev zs (mxP zs k) ∧ Lev zs (topS zs k)) ∧ (zeq (mnP zs k) (botS zs k) ∧ Lev zs (mnP zs k) ∧ Lev zs (botS zs k)) := by
  intro k
  induction k with
  | zero => exact fun hk => ⟨⟨.inl rfl, ⟨0, hk, rfl⟩, ⟨0, hk, rfl⟩⟩, ⟨.inl rfl, ⟨0, hk, rfl⟩, ⟨0, hk, rfl⟩⟩⟩
  | succ k ih =>
    intro hk
    obtain ⟨⟨a1, a2, a3⟩, ⟨b1, b2, b3⟩⟩ := ih (by omega)
    have hl : Lev zs (bitsAt zs (k + 1)) := ⟨k + 1, hk, rfl⟩
    obtain ⟨c1, c2, c3⟩ := mx_up (mxP zs k) (topS zs k) (bitsAt zs (k + 1)) (lev_fin s zs h _ a2).1 (lev_fin s zs h _ hl).1 (lev_lt zs hz _ a2) (lev_lt zs hz _ hl) a1
    obtain ⟨d1, d2, d3⟩ := mn_lo (mnP zs k) (botS zs k) (bitsAt zs (k + 1)) (lev_fin s zs h _ b2).1 (lev_fin s zs h _ hl).1 (lev_lt zs hz _ b2) (lev_lt zs hz _ hl) b1
    refine ⟨⟨c1, ?_, ?_⟩, ⟨d1, ?_, ?_⟩⟩
    · show Lev zs (mx2 _ _); rcases c2 with e | e <;> rw [e] <;> assumption
    · show Lev zs (up2 _ _); rcases c3 with e | e <;> rw [e] <;> assumption
    · show Lev zs (mn2 _ _); rcases d2 with e | e <;> rw [e] <;> assumption
    · show Lev zs (lo2 _ _); rcases d3 with e | e <;> rw [e] <;> assumption

theorem run_maxF (x y : Nat) (hx : fin x = true) (hy : fin y = true) (ts : Array TypeId) (t : TypeId) (w : World) : (Builtin.max_ ts t #[.float .f32 x, .float .f32 y]).run Tryd.prog w = .ok (.float .f32 (mx2 x y)) w := by
  obtain ⟨o, ho⟩ := ord_some x y hx hy
  have ho' : FloatKind.f32.format.order x y = some o := ho
  have hd : FloatKind.f32.decode x = Ieee.single.read x := rfl
  unfold mx2
  rw [ho]
  cases o <;> simp [Builtin.max_, Builtin.max2, ho', hd]
theorem run_minF (x y : Nat) (hx : fin x = true) (hy : fin y = true) (ts : Array TypeId) (t : TypeId) (w : World) : (Builtin.min_ ts t #[.float .f32 x, .float .f32 y]).run Tryd.prog w = .ok (.float .f32 (mn2 x y)) w := by
  obtain ⟨o, ho⟩ := ord_some x y hx hy
  have ho' : FloatKind.f32.format.order x y = some o := ho
  have hd : FloatKind.f32.decode x = Ieee.single.read x := rfl
  unfold mn2
  rw [ho]
  cases o <;> simp [Builtin.min_, Builtin.min2, ho', hd]

/-- a picture's levels lie in a block behind its side -/
def LevRow (b n : Nat) (zs : Array Value) (w : World) : Prop := ∀ k, k < n → w.cell? ⟨b, 1 + k, none⟩ = some (.float .f32 (bitsAt zs k))

set_option maxHeartbeats 1000000 in
theorem max_any (b n c : Nat) (zs : Array Value) (hn : n < 64) (w : World) (hL : LevRow b (n + 1) zs w) (hM : ∀ k, k < n → ∀ ts t w, (Builtin.max_ ts t #[.float .f32 (mxP zs k), .float .f32 (bitsAt zs (k + 1))]).run Tryd.prog w = .ok (.float .f32 (mxP zs (k + 1))) w) :
    Calls Tryd.prog 60 #[.slice (some ⟨b, 1, none⟩) (n + 1) c] w fun e w' => e = .returned (.float .f32 (mxP zs n)) ∧ w = w' := by
  have HL := Lib.hid hL
  have HM := Lib.hid hM
  have h0 := hL 0 (by omega)
  rw [Nat.add_zero] at h0
  have hn1 : decide (((n + 1 : Nat) : Int) < 1) = false := by simp; omega
  have hn2 : (0 : Int) < ((n + 1 : Nat) : Int) := by omega
  clear hL hM
  generalize hN : n + 1 = N at *
  have HN := Lib.hid hN
  have hN64 : N ≤ 64 := by omega
  have hnN : n < N := by omega
  clear hN
  go_enter Tryd.func60, Tryd.ntmps60
  go_wp2
  go_loop [3, 4] (fun m i => ∃ k : Nat, k ≤ n ∧ i = .int .i64 ((k + 1 : Nat) : Int) ∧ m = .float .f32 (mxP zs k)) (fun _ i => N - (intOf i).toNat)
  case atStart => exact ⟨0, by omega, rfl, rfl⟩
  case round =>
    obtain ⟨k, hk, rfl, rfl⟩ := hrel
    have hNN := HN.out
    by_cases hlt : k < n
    · have hdk : decide (((k + 1 : Nat) : Int) < (N : Int)) = true := by simp; omega
      have hk1 : ((k + 1 : Nat) : Int) < (N : Int) := by omega
      have hk0 : (0 : Int) ≤ ((k + 1 : Nat) : Int) := by omega
      have hl := HL.out (k + 1) (by omega)
      have hm := HM.out k hlt
      clear hNN
      have hkN : k + 1 < N := by have := HN.out; omega
      generalize hr : mxP zs (k + 1) = r at *
      have HR := Lib.hid hr
      clear hr
      generalize bitsAt zs (k + 1) = x at *
      generalize mxP zs k = y at *
      go_wp2
      exact ⟨⟨k + 1, by omega, by go_num, by rw [HR.out]⟩, by simp [intOf]; omega⟩
    · obtain rfl : k = n := by omega
      have hdk : decide ((k : Int) + 1 < (N : Int)) = false := by simp; omega
      clear hNN
      go_wp2
      go_ret
      exact ⟨rfl, rfl⟩

set_option maxHeartbeats 1000000 in
theorem min_any (b n c : Nat) (zs : Array Value) (hn : n < 64) (w : World) (hL : LevRow b (n + 1) zs w) (hM : ∀ k, k < n → ∀ ts t w, (Builtin.min_ ts t #[.float .f32 (mnP zs k), .float .f32 (bitsAt zs (k + 1))]).run Tryd.prog w = .ok (.float .f32 (mnP zs (k + 1))) w) :
    Calls Tryd.prog 62 #[.slice (some ⟨b, 1, none⟩) (n + 1) c] w fun e w' => e = .returned (.float .f32 (mnP zs n)) ∧ w = w' := by
  have HL := Lib.hid hL
  have HM := Lib.hid hM
  have h0 := hL 0 (by omega)
  rw [Nat.add_zero] at h0
  have hn1 : decide (((n + 1 : Nat) : Int) < 1) = false := by simp; omega
  have hn2 : (0 : Int) < ((n + 1 : Nat) : Int) := by omega
  clear hL hM
  generalize hN : n + 1 = N at *
  have HN := Lib.hid hN
  have hN64 : N ≤ 64 := by omega
  have hnN : n < N := by omega
  clear hN
  go_enter Tryd.func62, Tryd.ntmps62
  go_wp2
  go_loop [3, 4] (fun m i => ∃ k : Nat, k ≤ n ∧ i = .int .i64 ((k + 1 : Nat) : Int) ∧ m = .float .f32 (mnP zs k)) (fun _ i => N - (intOf i).toNat)
  case atStart => exact ⟨0, by omega, rfl, rfl⟩
  case round =>
    obtain ⟨k, hk, rfl, rfl⟩ := hrel
    have hNN := HN.out
    by_cases hlt : k < n
    · have hdk : decide (((k + 1 : Nat) : Int) < (N : Int)) = true := by simp; omega
      have hk1 : ((k + 1 : Nat) : Int) < (N : Int) := by omega
      have hk0 : (0 : Int) ≤ ((k + 1 : Nat) : Int) := by omega
      have hl := HL.out (k + 1) (by omega)
      have hm := HM.out k hlt
      clear hNN
      have hkN : k + 1 < N := by have := HN.out; omega
      generalize hr : mnP zs (k + 1) = r at *
      have HR := Lib.hid hr
      clear hr
      generalize bitsAt zs (k + 1) = x at *
      generalize mnP zs k = y at *
      go_wp2
      exact ⟨⟨k + 1, by omega, by go_num, by rw [HR.out]⟩, by simp [intOf]; omega⟩
    · obtain rfl : k = n := by omega
      have hdk : decide ((k : Int) + 1 < (N : Int)) = false := by simp; omega
      clear hNN
      go_wp2
      go_ret
      exact ⟨rfl, rfl⟩

set_option maxHeartbeats 1000000 in
/-- the levels, without the further ones -/
theorem levels_any (b s : Nat) (hs : side s = true) (w : World) (h0 : w.cell? ⟨b, 0, none⟩ = some (.int .i64 s)) :
    Calls Tryd.prog 61 #[.pointer (some ⟨b, 0, none⟩)] w fun e w' => e = .returned (.slice (some ⟨b, 1, none⟩) (s * s) 64) ∧ ∃ n, w' = w.drewN n := by
  have hs8 : 1 ≤ s ∧ s ≤ 8 := by rcases side_nat s hs with rfl | rfl | rfl | rfl <;> omega
  have hss := sq_le s hs
  have hw0 : IntKind.i64.wrap ((s : Int) * (s : Int)) = ((s * s : Nat) : Int) := by rw [← Int.natCast_mul]; exact IntWalk.i64_in _ (by omega)
  generalize s * s = N at *
  have h1 : (0 : Int) ≤ (N : Int) := by omega
  have h2 : (N : Int) ≤ 64 := by omega
  go_enter Tryd.func61, Tryd.ntmps61
  go_wp2_with fail
  go_quiet (fail)
  go_wp2
  go_ret
  exact ⟨rfl, _, rfl⟩

set_option maxHeartbeats 1000000 in
theorem top_any (b s : Nat) (hs : side s = true) (zs : Array Value) (hz : Floats zs) (h : shown s zs = true) (w : World) (hb : w.heap[b]? = some (.cells (pic s zs) 36 (0, 0))) :
    Calls Tryd.prog 30 #[.pointer (some ⟨b, 0, none⟩)] w fun e w' => e = .returned (.float .f32 (mxP zs (s * s - 1))) ∧ ∃ n, w' = w.drewN n := by
  have h0 : w.cell? ⟨b, 0, none⟩ = some (.int .i64 s) := by rw [cell_of_row _ _ _ _ _ _ hb]; exact pic_zero s zs
  have hss := sq_le s hs
  have hpos : 0 < s * s := by rcases side_nat s hs with rfl | rfl | rfl | rfl <;> omega
  have HL : Hid (LevRow b (s * s - 1 + 1) zs w) := Lib.hid fun k hk => by rw [cell_of_row _ _ _ _ _ _ hb, Nat.add_comm, pic_succ]; exact (bitsAt_lt zs hz k (by omega)).2
  have HE := Lib.hid (ends_both s zs hz h)
  have HM : Hid (∀ k, k < s * s - 1 → ∀ ts t w, (Builtin.max_ ts t #[.float .f32 (mxP zs k), .float .f32 (bitsAt zs (k + 1))]).run Tryd.prog w = .ok (.float .f32 (mxP zs (k + 1))) w) := Lib.hid fun k hk ts t w => by
    have hk2 : k + 1 < 64 := by omega
    exact run_maxF _ _ (lev_fin s zs h _ (HE.out k (by omega)).1.2.1).1 (lev_fin s zs h _ ⟨k + 1, hk2, rfl⟩).1 ts t w
  have HX : Hid (∀ d, Calls Tryd.prog 60 #[.slice (some ⟨b, 1, none⟩) (s * s) 64] (w.drewN d) fun e w' => e = .returned (.float .f32 (mxP zs (s * s - 1))) ∧ w.drewN d = w') := Lib.hid fun d => by
    have := max_any b (s * s - 1) 64 zs (by omega) (w.drewN d) (fun k hk => by rw [World.cell?_drewN]; exact HL.out k hk) HM.out
    rwa [show s * s - 1 + 1 = s * s by omega] at this
  have HV := Lib.hid (levels_any b s hs w h0)
  clear hb h hz HE HM HL hs
  generalize mxP zs (s * s - 1) = r at *
  generalize s * s = N at *
  go_enter Tryd.func30, Tryd.ntmps30
  go_wp2_with fail
  refine HV.out.mono ?_
  rintro e w' ⟨rfl, d, rfl⟩
  go_wp2_with fail
  refine (HX.out d).mono ?_
  rintro e w' ⟨rfl, rfl⟩
  go_wp2
  go_ret
  exact ⟨rfl, _, rfl⟩

set_option maxHeartbeats 1000000 in
theorem bottom_any (b s : Nat) (hs : side s = true) (zs : Array Value) (hz : Floats zs) (h : shown s zs = true) (w : World) (hb : w.heap[b]? = some (.cells (pic s zs) 36 (0, 0))) :
    Calls Tryd.prog 31 #[.pointer (some ⟨b, 0, none⟩)] w fun e w' => e = .returned (.float .f32 (mnP zs (s * s - 1))) ∧ ∃ n, w' = w.drewN n := by
  have h0 : w.cell? ⟨b, 0, none⟩ = some (.int .i64 s) := by rw [cell_of_row _ _ _ _ _ _ hb]; exact pic_zero s zs
  have hss := sq_le s hs
  have hpos : 0 < s * s := by rcases side_nat s hs with rfl | rfl | rfl | rfl <;> omega
  have HL : Hid (LevRow b (s * s - 1 + 1) zs w) := Lib.hid fun k hk => by rw [cell_of_row _ _ _ _ _ _ hb, Nat.add_comm, pic_succ]; exact (bitsAt_lt zs hz k (by omega)).2
  have HE := Lib.hid (ends_both s zs hz h)
  have HM : Hid (∀ k, k < s * s - 1 → ∀ ts t w, (Builtin.min_ ts t #[.float .f32 (mnP zs k), .float .f32 (bitsAt zs (k + 1))]).run Tryd.prog w = .ok (.float .f32 (mnP zs (k + 1))) w) := Lib.hid fun k hk ts t w => by
    have hk2 : k + 1 < 64 := by omega
    exact run_minF _ _ (lev_fin s zs h _ (HE.out k (by omega)).2.2.1).1 (lev_fin s zs h _ ⟨k + 1, hk2, rfl⟩).1 ts t w
  have HX : Hid (∀ d, Calls Tryd.prog 62 #[.slice (some ⟨b, 1, none⟩) (s * s) 64] (w.drewN d) fun e w' => e = .returned (.float .f32 (mnP zs (s * s - 1))) ∧ w.drewN d = w') := Lib.hid fun d => by
    have := min_any b (s * s - 1) 64 zs (by omega) (w.drewN d) (fun k hk => by rw [World.cell?_drewN]; exact HL.out k hk) HM.out
    rwa [show s * s - 1 + 1 = s * s by omega] at this
  have HV := Lib.hid (levels_any b s hs w h0)
  clear hb h hz HE HM HL hs
  generalize mnP zs (s * s - 1) = r at *
  generalize s * s = N at *
  go_enter Tryd.func31, Tryd.ntmps31
  go_wp2_with fail
  refine HV.out.mono ?_
  rintro e w' ⟨rfl, d, rfl⟩
  go_wp2_with fail
  refine (HX.out d).mono ?_
  rintro e w' ⟨rfl, rfl⟩
  go_wp2
  go_ret
  exact ⟨rfl, _, rfl⟩
end Go.Proofs.YtjmfffgddmnkmabDoor
