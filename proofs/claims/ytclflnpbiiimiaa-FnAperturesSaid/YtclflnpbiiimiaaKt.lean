/- The model's DecodeShadow: the list and the code. Condition: as many numbers as a law lets in. -/
import Derived.Test.YtclflnpbiiimiaaKl
namespace Go.Proofs.Ytclflnpbiiimiaa
open Go Go.RowKit Ieee

set_option maxRecDepth 100000 in
set_option maxHeartbeats 1600000 in
theorem specDc (A : List Nat) : ListsF 14 A (dcList A) (dcCode A) := by
  intro hn v w hO
  obtain ⟨a, cap, rfl, hC⟩ := hO.came
  have HC := Lib.hid hC
  have HCODE := Lib.hid (l10Code_any a cap A w hC hn)
  clear hO
  by_cases h0 : scC A = 0
  · obtain ⟨hf, hp⟩ := sc_zero h0
    obtain ⟨hn3, hn31⟩ := pr_len hp
    have HE : Hid (dcCode A = ansC (dec A) ∧ dcList A = ansL (dec A)) := Lib.hid ⟨by unfold dcCode; rw [if_pos h0], by unfold dcList; rw [if_pos h0]⟩
    rw [h0] at HCODE
    rw [HE.out.1, HE.out.2]
    have HLEG := Lib.hid (l10Legendre_any A.length hn31)
    have FA := Lib.hid (fun i hi => all_at hf i hi)
    obtain ⟨b1, o1, rfl, hb1, hc1⟩ := hC.2 (by omega)
    have CC : Hid (∀ u, Below w.heap.size w u → ∀ i, i < A.length → u.cell? ⟨b1, o1 + i, none⟩ = some (.float .f32 (A.getD i 0))) :=
      Lib.hid (fun u hu i hi => (hu.cell (p := ⟨b1, o1 + i, none⟩) hb1).trans (hc1 i hi))
    have HF : Hid (∀ k j, dcF A k j = mulF (A.getD j 0) (leg A.length ((j + A.length - k) % A.length))) := Lib.hid (fun k j => rfl)
    have HANS : Hid (dec A = rowsTo (fun k => (accTo (dcF A k) A.length).map (fun s => divS s (half A.length))) A.length) := Lib.hid rfl
    have HDV := Lib.hid (fun x hx => div_half x A.length hx hp)
    have HN := Lib.hid hn3
    have HN31 := Lib.hid hn31
    clear h0 hf hp hC hb1 hc1 hn HE
    generalize A.length = n at *
    go_enter Try.func14, Try.ntmps14
    go_wp2_with fail
    refine HCODE.out.mono ?_
    rintro e w1 ⟨rfl, d, rfl⟩
    have B1 : Hid (Below w.heap.size w (w.drewN d)) := Lib.hid (below_drewN (Below.refl _ _) d)
    generalize w.drewN d = w1 at *
    go_wp2_with fail
    refine (HLEG.out _).mono ?_
    rintro e w2 ⟨lv, rfl, lo, lk⟩
    obtain ⟨gl, lc, rfl, hgl, hgl2⟩ := lo.form (by rw [legs_len]; omega)
    rw [World.size_alloc] at hgl
    have GL : Hid (w1.heap.size < gl) := Lib.hid (by omega)
    have B2 : Hid (Below w.heap.size w w2) := Lib.hid ((B1.out.alloc B1.out.size _).trans (lk.mono (by rw [World.size_alloc]; have := B1.out.size; omega)))
    have L2 : Hid (OwnF 0 (.slice (some ⟨gl, 0, none⟩) (legs n).length lc) (legs n) w2) := Lib.hid (lo.mono (Nat.zero_le _))
    have O2 : Hid (OwnF w.heap.size (.slice (some ⟨w1.heap.size, 0, none⟩) 0 0) [] w2) := Lib.hid (((OwnF.empty w1.heap.size w1 (Nat.le_refl _)).mono B1.out.size).below lk (Nat.le_refl _))
    have V2 : Hid ((Value.slice (some ⟨w1.heap.size, 0, none⟩) 0 0).ownBlock ≠ some gl) := Lib.hid (fun e => by injection e with e; have : w1.heap.size = gl := e; have := GL.out; omega)
    rw [legs_len] at L2 ⊢
    clear lo lk hgl hgl2 HCODE HLEG B1
    go_wp2_with fail
    go_loopw [8, 6] (fun i v wr => ∃ k : Nat, ∃ R : List Nat, k ≤ n ∧ i = .int .i64 k ∧ Hid (rowsTo (fun k => (accTo (dcF A k) n).map (fun s => divS s (half n))) k = some R) ∧ Hid (OwnF w.heap.size v R wr) ∧ Hid (v.ownBlock ≠ some gl) ∧ Hid (OwnF 0 (.slice (some ⟨gl, 0, none⟩) n lc) (legs n) wr) ∧ Hid (Below w.heap.size w wr)) (fun i _ _ => n - (intOf i).toNat)
    case atStart => exact ⟨0, [], by omega, rfl, Lib.hid rfl, O2, V2, L2, B2⟩
    case round =>
      clear O2 V2 L2 B2
      obtain ⟨k, R, hk, rfl, HR, O, V, L, BB⟩ := hrel
      obtain ⟨ad, cp, e0, _⟩ := O.out.came
      subst e0
      have hRl := rows_len HR.out
      have HRL : Hid (R.length = k) := Lib.hid hRl
      rw [hRl] at O V ⊢
      clear hRl
      by_cases hlt : k < n
      · have hdk : decide ((k : Int) < (n : Int)) = true := by simp; omega
        go_wp2_with fail
        go_loopw [10, 9] (fun i v wv => ∃ j s : Nat, j ≤ n ∧ i = .int .i64 j ∧ v = .float .f32 s ∧ Hid (accTo (dcF A k) j = some s) ∧ Hid (OwnF w.heap.size (.slice ad k cp) R wv) ∧ Hid (OwnF 0 (.slice (some ⟨gl, 0, none⟩) n lc) (legs n) wv) ∧ Hid (Below w.heap.size w wv)) (fun i _ _ => n - (intOf i).toNat)
        case atStart => exact ⟨0, 0, by omega, rfl, rfl, Lib.hid rfl, O, L, BB⟩
        case round =>
          clear O L BB
          obtain ⟨j, s, hj, rfl, rfl, HS, O, L, BB⟩ := hrel
          by_cases hlj : j < n
          · have hdj : decide ((j : Int) < (n : Int)) = true := by simp; omega
            have hn0 : (n : Int) ≠ 0 := by omega
            have hi1 : IntKind.i64.wrap ((j : Int) - (k : Int)) = (j : Int) - (k : Int) := IntWalk.i64_in _ (by have := HN31.out; omega)
            have hsum : (j : Int) - (k : Int) + (n : Int) = (((j + n - k) : Nat) : Int) := by omega
            have hsw : IntKind.i64.wrap ((j : Int) - (k : Int) + (n : Int)) = (((j + n - k) : Nat) : Int) := (IntWalk.i64_in _ (by have := HN31.out; omega)).trans hsum
            have hm1 : (((j + n - k) : Nat) : Int).tmod (n : Int) = (((j + n - k) % n : Nat) : Int) := by rw [Int.tmod_eq_emod_of_nonneg (by omega)]; rfl
            have hm2 : (((j + n - k) : Nat) : Int) % (n : Int) = (((j + n - k) % n : Nat) : Int) := rfl
            have hml : (j + n - k) % n < n := Nat.mod_lt _ (by omega)
            have p1 := CC.out wr BB.out j hlj
            have l3 : OwnF 0 (.slice (some ⟨gl, 0, none⟩) (legs n).length lc) (legs n) wr := by rw [legs_len]; exact L.out
            have p2 := l3.cell ((j + n - k) % n) (by rw [legs_len]; exact hml)
            rw [legs_get n _ hml] at p2
            have hmax := fun ts t w => run_max_leg n ((j + n - k) % n) ts t w
            have HM := Lib.hid (HF.out k j)
            have hcf := leg_fin n ((j + n - k) % n)
            generalize (j + n - k) % n = q at *
            generalize (((j + n - k) : Nat) : Int) = jk at *
            generalize leg n q = c at *
            obtain ⟨m1, m2⟩ := mulF_fin (A.getD j 0) (c) (FA.out j hlj) hcf
            generalize A.getD j 0 = x at *
            generalize hmc : c = mc at *
            have ad1 := addF_num s (mulF x mc) (acc_fin HS.out) m2
            have h1 := fun w => run_float_arith (P := Try.prog) w .mul 40 .f32 x mc (mulF x mc) m1
            have h2 := fun w => run_float_arith (P := Try.prog) w .add 40 .f32 s (mulF x mc) (addF s (mulF x mc)) ad1
            have HYES : Hid (fin (addF s (mulF x mc)) = true → accTo (dcF A k) (j + 1) = some (addF s (mulF x mc))) := Lib.hid (fun hf => by
              have := acc_step HS.out (by rw [HM.out]; exact hf)
              rwa [HM.out] at this)
            have HNO : Hid (fin (addF s (mulF x mc)) = false → dec A = none) := Lib.hid (fun hf => by
              have h3 := acc_stop HS.out (by rw [HM.out]; exact hf)
              rw [HANS.out]
              exact rows_end (F := fun k => (accTo (dcF A k) n).map (fun s => divS s (half n))) (by rw [acc_end h3 (by omega)]; rfl) hlt)
            generalize mulF x mc = p at *
            generalize addF s p = r at *
            clear m1 m2 ad1 HM hsum l3 hcf hmax
            go_wp2_with fail
            go_quiet (fail)
            have OU : Hid (OwnF w.heap.size (.slice ad k cp) R (wr.drewN nq)) := Lib.hid O.out
            have LU : Hid (OwnF 0 (.slice (some ⟨gl, 0, none⟩) n lc) (legs n) (wr.drewN nq)) := Lib.hid L.out
            have BU : Hid (Below w.heap.size w (wr.drewN nq)) := Lib.hid (below_drewN BB.out nq)
            clear O L BB p1 p2
            generalize wr.drewN nq = u at *
            go_wp2_with fail
            refine (fine_any r _).mono ?_
            rintro e w3 ⟨rfl, d, rfl⟩
            have O2 : Hid (OwnF w.heap.size (.slice ad k cp) R (u.drewN d)) := Lib.hid OU.out
            have L2 : Hid (OwnF 0 (.slice (some ⟨gl, 0, none⟩) n lc) (legs n) (u.drewN d)) := Lib.hid LU.out
            have B2 : Hid (Below w.heap.size w (u.drewN d)) := Lib.hid (below_drewN BU.out d)
            clear OU LU BU
            generalize u.drewN d = u2 at *
            cases hf : fin r
            · have HNN := Lib.hid (HNO.out hf)
              go_wp2_with fail
              go_ret2
              rw [HNN.out]
              exact ⟨_, rfl, OwnF.zero _ _, B2.out⟩
            · have HY := Lib.hid (HYES.out hf)
              go_wp2_with fail
              exact ⟨⟨j + 1, r, by omega, by go_num, rfl, HY, O2, L2, B2⟩, by simp [intOf]; omega⟩
          · obtain rfl : j = n := by omega
            have HLN : Hid (R.length ≤ 1048576) := Lib.hid (by rw [HRL.out]; omega)
            have HR2 : Hid (rowsTo (fun k => (accTo (dcF A k) j).map (fun s => divS s (half j))) (k + 1) = some (R ++ [divS s (half j)])) := Lib.hid (rows_step HR.out (by rw [HS.out]; rfl))
            have hdv := HDV.out s (acc_fin HS.out)
            have e1 : IntKind.i64.wrap ((j : Int) + 1) = (j : Int) + 1 := IntWalk.i64_in _ (by omega)
            have e2 : ((j : Int) + 1).tdiv 2 = (((j + 1) / 2 : Nat) : Int) := by rw [Int.tdiv_eq_ediv_of_nonneg (by omega)]; omega
            have e3 : ((j : Int) + 1) / 2 = (((j + 1) / 2 : Nat) : Int) := by omega
            have e4 : IntKind.i64.wrap (((j + 1) / 2 : Nat) : Int) = (((j + 1) / 2 : Nat) : Int) := IntWalk.i64_in _ (by omega)
            have h3 := fun w => run_float_arith (P := Try.prog) w .quo 40 .f32 s (half j) (divS s (half j)) hdv
            have h4 : ∀ w, (binOp .quo 40 (.float .f32 s) (.float .f32 (floatOfInt .f32 (((j + 1) / 2 : Nat) : Int)))).run Try.prog w = .ok (.float .f32 (divS s (half j))) w := h3
            generalize divS s (half j) = z at *
            generalize (((j + 1) / 2 : Nat) : Int) = hh at *
            clear h3 hdv
            go_wp2_with (at_builtin; refine wpList_pushG rfl (.tmp 51) (.tmp 58) rfl w.heap.size _ _ z rfl rfl O.out HLN.out BB.out.size ?_)
            intro v' w3 o3 k3 g3
            have O3 := Lib.hid o3
            have B3 := Lib.hid (BB.out.trans k3)
            have hgl : gl < wr.heap.size := (World.ownsRow.lt L.out gl rfl).2
            obtain ⟨g4, g5⟩ := g3 gl hgl V.out
            have L3 := Lib.hid (L.out.same g4)
            have V3 := Lib.hid g5
            clear o3 k3 g3 g4 g5 hgl
            go_wp2_with fail
            exact ⟨⟨k + 1, R ++ [z], by omega, by go_num, HR2, O3, V3, L3, B3⟩, by simp [intOf]; omega⟩
      · obtain rfl : k = n := by omega
        have HEE : Hid (dec A = some R) := Lib.hid (by rw [HANS.out]; exact HR.out)
        go_wp2_with fail
        go_ret2
        rw [HEE.out]
        exact ⟨_, rfl, O.out, BB.out⟩
  · have HE : Hid (dcCode A = scC A ∧ dcList A = []) := Lib.hid ⟨by unfold dcCode; rw [if_neg h0], by unfold dcList; rw [if_neg h0]⟩
    rw [HE.out.1, HE.out.2]
    have hne : (scC A != 0) = true := by simpa using h0
    clear h0 hC HC hn HE
    generalize scC A = sc at *
    generalize A.length = n at *
    go_enter Try.func14, Try.ntmps14
    go_wp2_with fail
    refine HCODE.out.mono ?_
    rintro e w1 ⟨rfl, d, rfl⟩
    go_wp2_with fail
    go_ret2
    exact ⟨_, rfl, OwnF.zero _ _, below_drewN (Below.refl _ _) d⟩

end Go.Proofs.Ytclflnpbiiimiaa
