/- Joined texts, what is wanted of them: PathAt, PathsLaw. -/
import Derived.Test.YthpaipjfkhjblaaProg
import Derived.WalkKit
import Derived.Lib.Hide
import Derived.Deep.QuietTactic
import Derived.BigQuiet
import Derived.IntWalk
import Derived.Test.YthpaipjfkhjblaaJa
import Derived.Test.YthpaipjfkhjblaaJg
import Derived.Test.YthpaipjfkhjblaaJc
import Derived.Test.YthpaipjfkhjblaaJe
import Derived.Test.YthpaipjfkhjblaaJf
namespace Go.Proofs.Ythpaipjfkhjblaa.nn
open Go.RowKit

/-- a path as At takes it -/
def ip (p : List Nat) : List Int := p.map Int.ofNat
theorem atP_cons (t : VT) (i : Nat) (p : List Nat) (h : i < t.l.length) : atP t (ip (i :: p)) = atP t.l[i] (ip p) := by
  show atP t ((i : Int) :: ip p) = _
  rw [atP, dif_pos ⟨by omega, by omega⟩]
  simp only [Int.toNat_natCast]
theorem pthL_of {l : List VT} {p : List Nat} : ∀ {i : Nat}, p ∈ pthL i l → ∃ (j : Nat) (q : List Nat) (h : j < l.length), p = (i + j) :: q ∧ q ∈ pth l[j] := by
  induction l with
  | nil => intro i h; simp [pthL] at h
  | cons t r ih =>
    intro i h
    simp only [pthL, List.mem_append, List.mem_map] at h
    rcases h with ⟨q, hq, rfl⟩ | h
    · exact ⟨0, q, Nat.succ_pos _, rfl, hq⟩
    · obtain ⟨j, q, hj, rfl, hq⟩ := ih h
      exact ⟨j + 1, q, Nat.succ_lt_succ hj, by rw [show i + 1 + j = i + (j + 1) by omega], hq⟩
theorem depL_at {l : List VT} {i : Nat} (h : i < l.length) : dep l[i] ≤ depL l := by
  have h1 := depL_take_succ h
  have h2 := depL_app (l.take (i + 1)) (l.drop (i + 1))
  rw [List.take_append_drop] at h2
  omega
theorem rgtL_at {l : List VT} {i : Nat} (h : i < l.length) (hr : rgtL l = true) : rgt l[i] = true := by
  cases hh : rgt l[i]
  · rw [rgtL_no h hh] at hr; exact absurd hr (by decide)
  · rfl
theorem at_path (p : List Nat) : ∀ t : VT, p ∈ pth t → rgt t = true → ∃ x, atP t (ip p) = some x ∧ rgt x = true ∧ p.length + dep x ≤ dep t ∧ cnt x ≤ cnt t := by
  induction p with
  | nil => intro t _ hr; exact ⟨t, rfl, hr, by simp, Nat.le_refl _⟩
  | cons i q ih =>
    intro t h hr
    rw [pth_mk] at h
    rcases List.mem_cons.1 h with h | h
    · exact absurd h (by simp)
    obtain ⟨j, q', hj, he, hq⟩ := pthL_of h
    obtain ⟨rfl, rfl⟩ := List.cons.inj he
    rw [Nat.zero_add] at *
    rw [rgt_mk, Bool.and_eq_true, Bool.and_eq_true, Bool.or_eq_true] at hr
    obtain ⟨⟨_, h2⟩, h3⟩ := hr
    have hl : lf t.k = false := by
      rcases h2 with h2 | h2
      · simpa using h2
      · have := of_decide_eq_true h2; omega
    have hk5 : ¬ t.k = 5 := fun e => by rw [e] at hl; exact absurd hl (by decide)
    obtain ⟨x, h4, h5, h6, h7⟩ := ih _ hq (rgtL_at hj h3)
    refine ⟨x, by rw [atP_cons t j q hj]; exact h4, h5, ?_, ?_⟩
    · have h8 := dep_mk t
      rw [if_neg hk5, hl] at h8
      have h9 := depL_at hj
      simp only [List.length_cons]
      simp at h8
      omega
    · have h8 := cnt_mk t
      have h9 := cnt_at hj
      omega
/-- does a path come ahead of another one -/
def ahd : List Nat → List Nat → Bool
  | [], b => decide (b.length = 1)
  | _ :: _, [] => false
  | x :: a, y :: b => if x < y then true else if y < x then false else ahd a b
/-- each ahead of the next -/
def Chn : List (List Nat) → Prop
  | [] => True
  | [_] => True
  | a :: b :: r => ahd a b = true ∧ Chn (b :: r)
theorem chn_map (i : Nat) (l : List (List Nat)) (h : Chn l) : Chn (l.map (i :: ·)) := by
  induction l with
  | nil => trivial
  | cons a r ih =>
    cases r with
    | nil => trivial
    | cons b r => exact ⟨by rw [ahd, if_neg (Nat.lt_irrefl _), if_neg (Nat.lt_irrefl _)]; exact h.1, ih h.2⟩
theorem chn_app (l m : List (List Nat)) (h : Chn l) (hm : Chn m) (hc : ∀ a ∈ l, ∀ b r, m = b :: r → ahd a b = true) : Chn (l ++ m) := by
  induction l with
  | nil => exact hm
  | cons a r ih =>
    cases r with
    | nil =>
      cases m with
      | nil => trivial
      | cons b s => exact ⟨hc a (by simp) b s rfl, hm⟩
    | cons b r => exact ⟨h.1, ih h.2 fun x hx => hc x (List.mem_cons_of_mem _ hx)⟩
mutual
theorem chn_pth : ∀ t : VT, Chn (pth t)
  | .mk _ _ _ _ l => by
    have h := chn_pthL 0 l
    unfold pth
    cases l with
    | nil => trivial
    | cons t r =>
      cases t
      exact ⟨by decide, h⟩
theorem chn_pthL : ∀ (i : Nat) (l : List VT), Chn (pthL i l)
  | _, [] => trivial
  | i, t :: r => by
    have h1 := chn_pth t
    have h2 := chn_pthL (i + 1) r
    unfold pthL
    refine chn_app _ _ (chn_map i _ h1) h2 fun a ha b s hb => ?_
    obtain ⟨q, _, rfl⟩ := List.mem_map.1 ha
    cases r with
    | nil => simp [pthL] at hb
    | cons u r =>
      cases u
      simp only [pthL, pth, List.map_cons, List.cons_append, List.cons.injEq] at hb
      rw [← hb.1, ahd, if_pos (Nat.lt_succ_self _)]
end
theorem chn_at : ∀ (l : List (List Nat)) (i : Nat) (h : i + 1 < l.length), Chn l → ahd l[i] l[i + 1] = true
  | _ :: _ :: _, 0, _, hc => hc.1
  | _ :: b :: r, i + 1, h, hc => chn_at (b :: r) i (Nat.lt_of_succ_lt_succ h) hc.2
end Go.Proofs.Ythpaipjfkhjblaa.nn
namespace Go.Proofs.Ythpaipjfkhjblaa.nn
open Go.RowKit

theorem ahd_drop {a b : List Nat} {i : Nat} (h : i < a.length) (hb : i < b.length) : ahd (a.drop i) (b.drop i) = if a[i] < b[i] then true else if b[i] < a[i] then false else ahd (a.drop (i + 1)) (b.drop (i + 1)) := by
  rw [List.drop_eq_getElem_cons h, List.drop_eq_getElem_cons hb, ahd]
theorem ahd_short {a b : List Nat} {i : Nat} (h : i < a.length) (hb : ¬ i < b.length) : ahd (a.drop i) (b.drop i) = false := by
  have e : b.drop i = [] := List.drop_eq_nil_of_le (by omega)
  rw [List.drop_eq_getElem_cons h, e]
  rfl
theorem ahd_end {a b : List Nat} {i : Nat} (h : i = a.length) : ahd (a.drop i) (b.drop i) = decide (b.length - i = 1) := by
  have e : a.drop i = [] := List.drop_eq_nil_of_le (by omega)
  rw [e, ahd, List.length_drop]
/-- a path that is read, as a slice of numbers -/
def Pt (w : World) (v : Value) (p : List Nat) : Prop := ∃ (A : Option Addr) (B O c : Nat), v = .slice A p.length c ∧ p.length ≤ c ∧ (p = [] ∨ (A = some ⟨B, O, none⟩ ∧ B < w.heap.size ∧ ∀ j (h : j < p.length), w.cell? ⟨B, O + j, none⟩ = some (.int .i64 (p[j] : Int))))
theorem Pt.keep {w w' : World} {v : Value} {p : List Nat} (h : Pt w v p) {B : Nat} (hB : Below B w w') (hs : w.heap.size ≤ B) : Pt w' v p := by
  obtain ⟨A, b, O, c, h1, h2, h3⟩ := h
  exact ⟨A, b, O, c, h1, h2, h3.imp id fun ⟨g1, g2, g3⟩ => ⟨g1, Nat.lt_of_lt_of_le g2 hB.size, fun j hj => (hB.cell (p := ⟨b, O + j, none⟩) (Nat.lt_of_lt_of_le g2 hs)).trans (g3 j hj)⟩⟩
set_option maxRecDepth 100000 in
set_option maxHeartbeats 2000000 in
theorem ahead_any (va vb : Value) (a b : List Nat) (w : World) (ha : Pt w va a) (hb : Pt w vb b) (hna : a.length ≤ 1048577) (_ : b.length ≤ 1048577) :
    Calls Try.prog 24 #[va, vb] w fun e w' => e = .returned (.bool (ahd a b)) ∧ ∃ q, w' = w.drewN q := by
  obtain ⟨Aa, Ba, Oa, ca, rfl, hca, hcell⟩ := ha
  obtain ⟨Ab, Bb, Ob, cb, rfl, hcb, hcellb⟩ := hb
  have HA : Hid (∀ j (h : j < a.length), ∃ B O, Aa = some ⟨B, O, none⟩ ∧ w.cell? ⟨B, O + j, none⟩ = some (.int .i64 (a[j] : Int))) := Lib.hid fun j h => by
    rcases hcell with f | ⟨g1, _, g2⟩
    · rw [f] at h; exact absurd h (by simp)
    · exact ⟨_, _, g1, g2 j h⟩
  have HB : Hid (∀ j (h : j < b.length), ∃ B O, Ab = some ⟨B, O, none⟩ ∧ w.cell? ⟨B, O + j, none⟩ = some (.int .i64 (b[j] : Int))) := Lib.hid fun j h => by
    rcases hcellb with f | ⟨g1, _, g2⟩
    · rw [f] at h; exact absurd h (by simp)
    · exact ⟨_, _, g1, g2 j h⟩
  obtain ⟨R, hR⟩ : ∃ R, ahd a b = R := ⟨_, rfl⟩
  rw [hR]
  have HR0 : Hid (ahd (a.drop 0) (b.drop 0) = R) := Lib.hid hR
  clear hcell hcellb hR
  go_enter Try.func24, Try.ntmps24
  go_wp2_with fail
  go_loopw [5] (fun s3 wr => ∃ i : Nat, i ≤ a.length ∧ i ≤ b.length ∧ s3 = .int .i64 (i : Int) ∧ Hid (ahd (a.drop i) (b.drop i) = R) ∧ ∃ q, wr = w.drewN q) (fun s3 _ => a.length - (intOf s3).toNat)
  case atStart => exact ⟨0, Nat.zero_le _, Nat.zero_le _, rfl, HR0, 0, rfl⟩
  case round =>
    obtain ⟨i, hi, hib, rfl, hI, q, rfl⟩ := hrel
    by_cases hlt : i < a.length
    · by_cases hltb : i < b.length
      · obtain ⟨Ba', Oa', rfl, h0⟩ := HA.out i hlt
        obtain ⟨Bb', Ob', rfl, h1⟩ := HB.out i hltb
        obtain ⟨x, hx⟩ : ∃ x, a[i] = x := ⟨_, rfl⟩
        obtain ⟨y, hy⟩ : ∃ y, b[i] = y := ⟨_, rfl⟩
        have hd := ahd_drop hlt hltb
        rw [hI.out, hx, hy] at hd
        have HD := Lib.hid hd
        rw [hx] at h0
        rw [hy] at h1
        have hge : ¬ b.length ≤ i := by omega
        clear hx hy hd
        by_cases c1 : x < y
        · have HT : Hid (R = true) := Lib.hid (by rw [HD.out, if_pos c1])
          have hnl : ¬ y < x := by omega
          go_wp2_with fail
          go_quiet (fail)
          go_wp2_with fail
          go_quiet (fail)
          go_wp2_with fail
          go_ret
          rw [HT.out]
          exact ⟨rfl, _, (World.drewN_drewN _ _ _).trans (World.drewN_drewN _ _ _)⟩
        · by_cases c2 : y < x
          · have HT : Hid (R = false) := Lib.hid (by rw [HD.out, if_neg c1, if_pos c2])
            go_wp2_with fail
            go_quiet (fail)
            go_wp2_with fail
            go_ret
            exact ⟨by rw [HT.out]; rfl, drew_on _ _ _⟩
          · obtain rfl : x = y := by omega
            have HN : Hid (ahd (a.drop (i + 1)) (b.drop (i + 1)) = R) := Lib.hid (by rw [HD.out, if_neg c1, if_neg c2])
            clear c1 c2
            go_wp2_with fail
            go_quiet (fail)
            go_wp2_with fail
            go_quiet (fail)
            go_wp2_with fail
            go_roundw
            case rel => exact ⟨i + 1, hlt, hltb, by go_num, HN, _, rfl⟩
            case measure => simp [intOf]; omega
      · have HT : Hid (R = false) := Lib.hid (by rw [← hI.out]; exact ahd_short hlt hltb)
        go_wp2_with fail
        go_quiet (fail)
        go_wp2_with fail
        go_ret
        exact ⟨by rw [HT.out]; rfl, _, rfl⟩
    · obtain rfl : i = a.length := by omega
      have HT : Hid (R = decide (b.length - a.length = 1)) := Lib.hid (by rw [← hI.out]; exact ahd_end rfl)
      have hE : ((b.length : Int) == (a.length : Int) + 1) = decide (b.length - a.length = 1) := by
        by_cases c : b.length - a.length = 1
        · rw [decide_eq_true c, beq_iff_eq]; omega
        · rw [decide_eq_false c, beq_eq_false_iff_ne]; omega
      go_wp2_with fail
      go_ret
      exact ⟨by rw [HT.out]; rfl, _, rfl⟩
end Go.Proofs.Ythpaipjfkhjblaa.nn
