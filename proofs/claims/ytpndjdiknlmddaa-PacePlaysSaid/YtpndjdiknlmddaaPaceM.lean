/- Paces: what the deeds do to them, reckoned. No program. -/
import Derived.Test.YtpndjdiknlmddaaPaceB
namespace Go.Proofs.Ytpndjdiknlmddaa
set_option linter.unusedVariables false
open Go.RowKit Go.Lib

structure PS where
  t : Int
  v : Int
  c : Bool
  d : Int
  m : Int
  o : Int
structure PS.Ok (p : PS) : Prop where
  t0 : 0 ≤ p.t
  t1 : p.t ≤ 512
  v0 : 0 ≤ p.v
  v1 : p.v ≤ 260
  d0 : 0 ≤ p.d
  d1 : p.d ≤ 6
  m0 : 0 ≤ p.m
  m1 : p.m ≤ 1008
  o0 : p.o = 0 ∨ 32 ≤ p.o
  o1 : p.o ≤ 512
def PS.zero : PS := ⟨0, 0, false, 0, 0, 0⟩
theorem PS.zero_ok : PS.zero.Ok := by constructor <;> decide
def PS.came (p : PS) (n : Int) : PS := ⟨cameT p.t p.c (clampX n), cameV p.t p.v p.c (clampX n), true, 0, cameM p.m p.o, p.o⟩
def PS.lost (p : PS) : PS := ⟨p.t, p.v, p.c, min (p.d + 1) 6, 0, max ((16 + p.m) / 2) 32⟩
def PS.gap (p : PS) : PS := ⟨p.t, p.v, p.c, p.d, max ((16 + p.m) / 2) 32 - 16, max ((16 + p.m) / 2) 32⟩
def PS.step (p : PS) (k n : Int) : PS := if 0 ≤ k ∧ k ≤ 3 then p.came n else if k = 4 then p.lost else p.gap
theorem cameM_range {m o : Int} (m0 : 0 ≤ m) (m1 : m ≤ 1008) : 0 ≤ cameM m o ∧ cameM m o ≤ 1008 := by
  have := quo_range m m0
  unfold cameM thrO; omega
theorem PS.came_ok {p : PS} (h : p.Ok) (n : Int) : (p.came n).Ok := by
  obtain ⟨x0, x1⟩ := clampX_range n
  have a := cameT_range (c := p.c) h.t0 h.t1 x0 x1
  have b := cameV_range (c := p.c) h.t0 h.t1 h.v0 h.v1 x0 x1
  have c := cameM_range (o := p.o) h.m0 h.m1
  exact ⟨a.1, a.2, b.1, b.2, Int.le_refl _, by show (0 : Int) ≤ 6; decide, c.1, c.2, h.o0, h.o1⟩
theorem PS.lost_ok {p : PS} (h : p.Ok) : p.lost.Ok := by
  have := h.d0; have := h.d1; have := h.m0; have := h.m1
  refine ⟨h.t0, h.t1, h.v0, h.v1, ?_, ?_, Int.le_refl _, ?_, ?_, ?_⟩ <;> simp only [PS.lost] <;> omega
theorem PS.gap_ok {p : PS} (h : p.Ok) : p.gap.Ok := by
  have := h.d0; have := h.d1; have := h.m0; have := h.m1
  refine ⟨h.t0, h.t1, h.v0, h.v1, h.d0, h.d1, ?_, ?_, ?_, ?_⟩ <;> simp only [PS.gap] <;> omega
theorem PS.step_ok {p : PS} (h : p.Ok) (k n : Int) : (p.step k n).Ok := by
  unfold PS.step; (repeat' split)
  · exact PS.came_ok h n
  · exact PS.lost_ok h
  · exact PS.gap_ok h
def PS.wait (p : PS) : Int := waitV p.t p.v p.c p.d
def PS.rate (p : PS) : Int := (16 + p.m) / 16
theorem waitOf_range {t v : Int} {c : Bool} (h0 : 0 ≤ t) (h1 : 0 ≤ v) : 2 ≤ waitOf t v c := by unfold waitOf; split <;> omega
theorem PS.wait_range {p : PS} (h : p.Ok) : 2 ≤ p.wait ∧ p.wait ≤ 64 := by
  have hw := waitOf_range (c := p.c) h.t0 h.v0
  unfold PS.wait waitV
  generalize waitOf p.t p.v p.c = x at *
  (repeat' split) <;> omega
theorem PS.rate_range {p : PS} (h : p.Ok) : 1 ≤ p.rate ∧ p.rate ≤ 64 := by
  have := h.m0; have := h.m1
  unfold PS.rate; omega
theorem PS.lost_rate (p : PS) : p.lost.rate = 1 := by simp [PS.lost, PS.rate]
theorem PS.lost_wait {p : PS} (h : p.Ok) : p.wait ≤ p.lost.wait := by
  have hw := waitOf_range (c := p.c) h.t0 h.v0
  have h1 := h.d0; have h2 := h.d1
  unfold PS.wait waitV PS.lost
  dsimp only
  generalize waitOf p.t p.v p.c = x at *
  generalize p.d = d at *
  have hc : d = 0 ∨ d = 1 ∨ d = 2 ∨ d = 3 ∨ d = 4 ∨ d = 5 ∨ d = 6 := by omega
  rcases hc with rfl | rfl | rfl | rfl | rfl | rfl | rfl <;> simp only [show min ((0 : Int) + 1) 6 = 1 from by decide, show min ((1 : Int) + 1) 6 = 2 from by decide, show min ((2 : Int) + 1) 6 = 3 from by decide, show min ((3 : Int) + 1) 6 = 4 from by decide, show min ((4 : Int) + 1) 6 = 5 from by decide, show min ((5 : Int) + 1) 6 = 6 from by decide, show min ((6 : Int) + 1) 6 = 6 from by decide, Int.reduceEq, if_true, if_false] <;> omega

/-- how far t is from where it rests -/
def far (x t : Int) : Int := if t < 8 * x then 8 * x - t else if 8 * x + 7 < t then t - (8 * x + 7) else 0
def shrink (d : Int) : Int := d - (d + 7) / 8
theorem far_step (x t : Int) (c : Bool) (x0 : 0 ≤ x) (x1 : x ≤ 64) (t0 : 0 ≤ t) (t1 : t ≤ 512) : far x (cameT t c x) ≤ shrink (far x t) := by
  unfold cameT shrink
  cases c <;> simp only [Bool.false_eq_true, if_false, if_true] <;> unfold far <;> (repeat' split) <;> omega
def bD : Nat → Int
  | 0 => 512
  | i + 1 => shrink (bD i)
def bV : Nat → Int
  | 0 => 260
  | i + 1 => bV i - bV i / 4
theorem shrink_mono {a b : Int} (h : a ≤ b) : shrink a ≤ shrink b := by unfold shrink; omega
theorem bD_zero (i : Nat) : bD (42 + i) ≤ 0 := by
  induction i with
  | zero => decide
  | succ i ih => show shrink (bD (42 + i)) ≤ 0; exact Int.le_trans (shrink_mono ih) (by decide)
theorem bV_small (i : Nat) : bV (20 + i) ≤ 3 := by
  induction i with
  | zero => decide
  | succ i ih => show bV (20 + i) - bV (20 + i) / 4 ≤ 3; omega
theorem far_nonneg (x t : Int) : 0 ≤ far x t := by unfold far; (repeat' split) <;> omega
theorem rest_of {x t : Int} (h : far x t ≤ 0) : t / 8 = x := by unfold far at h; (repeat' split at h) <;> omega

/-- what holds behind i ticks of the same length -/
structure Steady (x : Int) (i : Nat) (p : PS) : Prop where
  ok : p.Ok
  near : far x p.t ≤ bD i
  slow : 42 ≤ i → p.v ≤ bV (i - 42)
  known : 1 ≤ i → p.c = true ∧ p.d = 0
theorem Steady.start {x : Int} {p : PS} (h : p.Ok) (x0 : 0 ≤ x) (x1 : x ≤ 63) : Steady x 0 p :=
  ⟨h, by have := h.t0; have := h.t1; unfold far bD; (repeat' split) <;> omega, fun h => by omega, fun h => by omega⟩
theorem clampX_of {x : Int} (x0 : 0 ≤ x) (x1 : x ≤ 63) : clampX x = x := by unfold clampX; omega
theorem Steady.next {x : Int} {i : Nat} {p : PS} (h : Steady x i p) (x0 : 0 ≤ x) (x1 : x ≤ 63) : Steady x (i + 1) (p.came x) := by
  have hc := clampX_of x0 x1
  refine ⟨PS.came_ok h.ok x, ?_, fun hi => ?_, fun _ => ⟨rfl, rfl⟩⟩
  · show far x (cameT p.t p.c (clampX x)) ≤ shrink (bD i)
    rw [hc]
    exact Int.le_trans (far_step x p.t p.c x0 (by omega) h.ok.t0 h.ok.t1) (shrink_mono h.near)
  · show cameV p.t p.v p.c (clampX x) ≤ _
    rw [hc]
    rcases Nat.lt_or_ge i 42 with h1 | h1
    · have : i + 1 - 42 = 0 := by omega
      rw [this]
      exact (cameV_range (c := p.c) h.ok.t0 h.ok.t1 h.ok.v0 h.ok.v1 x0 (by omega)).2
    · have hz : far x p.t ≤ 0 := by
        have := bD_zero (i - 42)
        rw [show 42 + (i - 42) = i from by omega] at this
        exact Int.le_trans h.near this
      have hr := rest_of hz
      have hv := h.slow h1
      have hk := (h.known (by omega)).1
      rw [show i + 1 - 42 = (i - 42) + 1 from by omega, hk]
      unfold cameV
      simp only [if_true]
      show _ ≤ bV (i - 42) - bV (i - 42) / 4
      omega
theorem Steady.wait {x : Int} {i : Nat} {p : PS} (h : Steady x i p) (hi : 62 ≤ i) (x0 : 0 ≤ x) (x1 : x ≤ 63) : (x ≤ p.wait ∨ p.wait = 64) ∧ p.wait ≤ x + 8 := by
  have hz : far x p.t ≤ 0 := by
    have := bD_zero (i - 42)
    rw [show 42 + (i - 42) = i from by omega] at this
    exact Int.le_trans h.near this
  have hr := rest_of hz
  have hv := h.slow (by omega)
  have hv2 := bV_small (i - 62)
  rw [show 20 + (i - 62) = i - 42 from by omega] at hv2
  obtain ⟨hk, hd⟩ := h.known (by omega)
  have := h.ok.v0
  unfold PS.wait waitV waitOf
  rw [hk, hd]
  simp only [if_true]
  omega
end Go.Proofs.Ytpndjdiknlmddaa
