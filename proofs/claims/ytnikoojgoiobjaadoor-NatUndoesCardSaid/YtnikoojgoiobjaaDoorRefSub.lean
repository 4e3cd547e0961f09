/- The walks of the document's less and Sub. -/
import Derived.Test.YtnikoojgoiobjaaDoorRefCmp
namespace Go.Proofs.YtnikoojgoiobjaaDoor.nn
open Go.RowKit

/-- limbs beyond what the value needs are 0 -/
theorem sm_low {B : Nat} (hB : 0 < B) {g : Nat → Nat} {n m : Nat} (h : sm B g m < B ^ n) : sm B (pad g m) n = sm B g m := by
  rcases Nat.le_total m n with h1 | h1
  · exact pad_sm B g h1
  · have e1 : sm B (pad g m) n = sm B g n := sm_congr B fun i hi => by simp only [pad]; rw [if_pos (by omega)]
    obtain ⟨j, rfl⟩ : ∃ j, m = n + j := ⟨m - n, by omega⟩
    rw [e1]
    rw [sm_split] at h ⊢
    have hp := Nat.pow_pos (n := n) hB
    rcases Nat.eq_zero_or_pos (sm B (fun i => g (n + i)) j) with h2 | h2
    · rw [h2]; simp
    · have := Nat.le_mul_of_pos_left (B ^ n) h2
      omega

/-- what holds at the head of less's loop -/
def LessRel (base : Nat) (w0 wr : World) (s : Value) (i k : Nat) (F G : Nat → Nat) : Prop :=
  ∃ f' : Nat → Nat, wr.ownsRow base 45 1 s i (vl .u32 f' i) ∧ Below base w0 wr ∧ base ≤ wr.heap.size ∧ Lt (2 ^ 32) f' i ∧ sm (2 ^ 32) F i + k * (2 ^ 32) ^ i = sm (2 ^ 32) f' i + sm (2 ^ 32) G i

theorem borrow_eq {a b c v k' Bs P : Nat} (hk : a + k' * Bs = v + b + c) : a * P + k' * (P * Bs) = v * P + b * P + c * P := by
  have e2 := congrArg (· * P) hk
  simp only [Nat.add_mul] at e2
  rw [Nat.mul_comm P Bs, ← Nat.mul_assoc]
  exact e2

theorem LessRel.step {base : Nat} {w0 wr w1 : World} {v : Value} {i k : Nat} {F G f' : Nat → Nat} (o : Obj) (hF : F i < 2 ^ 32) (hG : G i < 2 ^ 32) (hk : k ≤ 1)
    (h2 : Below base w0 wr) (h3 : base ≤ wr.heap.size) (h4 : Lt (2 ^ 32) f' i) (h6 : sm (2 ^ 32) F i + k * (2 ^ 32) ^ i = sm (2 ^ 32) f' i + sm (2 ^ 32) G i)
    (ho : w1.ownsRow base 45 1 v (i + 1) (vl .u32 (jn f' i (fun _ => (F i + 4294967296 - G i - k) % 4294967296)) (i + 1))) (hb : Below base (wr.alloc o) w1) :
    LessRel base w0 w1 v (i + 1) (1 - (F i + 4294967296 - G i - k) / 4294967296) F G := by
  have hb1 := (h2.alloc h3 o).trans hb
  have hs := hb.size
  rw [hsz] at hs
  refine ⟨_, ho, hb1, by omega, h4.jn (m := 1) (fun _ _ => Nat.mod_lt _ (by decide)), ?_⟩
  have e1 : sm (2 ^ 32) (fun _ => (F i + 4294967296 - G i - k) % 4294967296) 1 = (F i + 4294967296 - G i - k) % 4294967296 := by simp [sm]
  rw [sm_jn, e1]
  simp only [sm]
  rw [pow_s (2 ^ 32) i]
  have e := borrow_eq (P := (2 ^ 32) ^ i) (Bs := 2 ^ 32) (a := F i) (b := G i) (c := k) (v := (F i + 4294967296 - G i - k) % 4294967296) (k' := 1 - (F i + 4294967296 - G i - k) / 4294967296) (by omega)
  omega

theorem less_end {F f' G : Nat → Nat} {n k S : Nat} (h : sm (2 ^ 32) F n + k * (2 ^ 32) ^ n = sm (2 ^ 32) f' n + sm (2 ^ 32) G n) (hG : sm (2 ^ 32) G n = S) (hle : S ≤ sm (2 ^ 32) F n) (lf : Lt (2 ^ 32) f' n) :
    sm (2 ^ 32) f' n = sm (2 ^ 32) F n - S := by
  have h1 := sm_lt lf
  rcases k with _ | k
  · omega
  · have e3 : (2 ^ 32) ^ n ≤ (k + 1) * (2 ^ 32) ^ n := Nat.le_mul_of_pos_left _ (by omega)
    omega

theorem cm_ge {a b : Nat} (h : ¬ a < b) : 0 ≤ cm a b ∧ cm a b ≤ 1 := by
  rw [cm, if_neg h]
  split <;> omega

/-- one of two -/
def two {α : Type} (x y : α) : Nat → α := fun i => match i with | 0 => x | _ + 1 => y

theorem rds_two (w : World) (A B : Option Addr) (n c m d : Nat) (f g : Nat → Nat) (e : TypeId) (hA : Rd w .u32 A n f) (hn : n ≤ c) (hc : c ≤ maxLen) (hB : Rd w .u32 B m g) (hm : m ≤ d) (hd : d ≤ maxLen) :
    Rds (w.alloc (.cells #[.slice A n c, .slice B m d] e)) (some ⟨w.heap.size, 0, none⟩) 2 (two A B) (two n m) (two c d) (two f g) := fun _ =>
  ⟨w.heap.size, 0, rfl, by simp, fun i hi => by
    rcases i with _ | _ | i
    · refine ⟨?_, hn, hc, hA.alloc _⟩
      rw [World.cell?_alloc_at _ _ _ _ rfl]; rfl
    · refine ⟨?_, hm, hd, hB.alloc _⟩
      rw [World.cell?_alloc_at _ _ _ _ rfl]; rfl
    · omega⟩

theorem lg_two (n m : Nat) (f g : Nat → Nat) : lg (two n m) (two f g) 2 = (decide (4096 < tr f n) || decide (4096 < tr g m)) := by
  simp only [lg, Bool.false_or]; rfl

/-- is one of two too long? -/
def tl2 (n m : Nat) (f g : Nat → Nat) : Bool := decide (4096 < tr f n) || decide (4096 < tr g m)
/-- what Sub answers -/
def subR (n m : Nat) (f g : Nat → Nat) : Nat := if tl2 n m f g = true then 0 else if sm (2 ^ 32) f n < sm (2 ^ 32) g m then 0 else sm (2 ^ 32) f n - sm (2 ^ 32) g m
def subE (n m : Nat) (f g : Nat → Nat) : Nat := if tl2 n m f g = true then 2 else if sm (2 ^ 32) f n < sm (2 ^ 32) g m then 1 else 0

end Go.Proofs.YtnikoojgoiobjaaDoor.nn
