/- The law's comparison of two waves holds a wave of finite cells equal to itself. Condition: 64 finite cells. The law holds a wave of finite cells equal to itself. Condition: 64 finite cells. -/
import Derived.Test.YtclflnpbiiimiaaDoorM9
import Derived.Deep.QuietTactic
import Derived.BigQuiet
namespace Go.Proofs.YtclflnpbiiimiaaDoor
open Go Go.RowKit

theorem conv_number (x : Nat) (h : fin x = true) : ∃ s m p, Ieee.double.read (conv x) = .number s m p := by
  obtain ⟨s, m, p, hr, hm, hp, hp'⟩ := fin_read x h
  unfold conv
  rw [hr]
  simp only [Ieee.Format.write]
  have key : ∀ r, r < 9218868437227405312 → ∃ s' m' p', Ieee.double.read (Ieee.double.word s r) = .number s' m' p' := by
    intro r hr'
    rw [read64 (Ieee.double.word s r), word_mod s r (by omega)]
    simp only [hr', if_true]
    split
    · exact ⟨_, _, _, rfl⟩
    · exact ⟨_, _, _, rfl⟩
  rcases Nat.eq_zero_or_pos m with h0 | h0
  · subst h0
    rw [conv_zero]
    exact key 0 (by omega)
  · obtain ⟨k, e, hn, hk, hk1, hk2, he1, he2, he, hl⟩ := near64 s m p h0 hm hp hp'
    rw [hn]
    exact key _ (by omega)

theorem own_conv (x : Nat) (h : fin x = true) : own (conv x) = true := by
  obtain ⟨s, m, p, hd⟩ := conv_number x h
  exact own_number _ s m p hd

theorem float_conv (x : Nat) (h : fin x = true) : floatToFloatBits .f32 x .f64 = some (conv x) := by
  obtain ⟨s, m, p, hr, _⟩ := fin_read x h
  have h' : FloatKind.f32.decode x = .number s m p := hr
  have hi := (conv_finite x h).1
  have hc : conv x = FloatKind.f64.encode (.number s m p) := by unfold conv; rw [hr]; rfl
  have hi' : (FloatKind.f64.decode (FloatKind.f64.encode (.number s m p))).isInfinity = false := by rw [← hc]; exact hi
  simp [floatToFloatBits, h', hi', hc]

end Go.Proofs.YtclflnpbiiimiaaDoor

namespace Go.Proofs.YtclflnpbiiimiaaDoor
open Go Go.RowKit

end Go.Proofs.YtclflnpbiiimiaaDoor
