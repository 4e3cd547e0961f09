/- The walk of the document's FromDigits. -/
import Derived.Test.YtnikoojgoiobjaaDoorFromDigits
import Derived.Test.YtnikoojgoiobjaaDoorRefTimes
import Derived.Deep.RegionHeld3
namespace Go.Proofs.YtnikoojgoiobjaaDoor.nn
open Go.RowKit

theorem nil_of {s : ByteArray} (h : s.size = 0) : s = ⟨#[]⟩ := by
  apply ByteArray.ext
  exact Array.eq_empty_of_size_eq_zero h
theorem not_nil {s : ByteArray} (h : 0 < s.size) : s.toList.isEmpty = false := by
  have e : s.toList = s.data.toList := ByteArray.toList_eq s
  rw [e, List.isEmpty_eq_false_iff]
  intro h2
  have h3 : s.data.size = 0 := by rw [← Array.length_toList, h2]; rfl
  have h4 : s.size = s.data.size := rfl
  omega

/-- all that stood in a stands in b -/
def Stay (a b : World) : Prop := Below a.heap.size a b
theorem Stay.a1 (a : World) (o : Obj) : Stay a (a.alloc o).drew := ((Below.refl _ _).alloc (Nat.le_refl _) _).drew
theorem Stay.a2 (a : World) (o o' : Obj) : Stay a ((a.alloc o).alloc o').drew := (((Below.refl _ _).alloc (Nat.le_refl _) _).alloc (by rw [hsz]; omega) _).drew
theorem Stay.al {a b : World} (h : Stay a b) (o : Obj) : Stay a (b.alloc o) := Below.alloc h h.size o
/-- one limb stands in block g -/
def Limb (w : World) (g x : Nat) : Prop := Rd w .u32 (some ⟨g, 0, none⟩) 1 (fun _ => x)
theorem Limb.l1 (a : World) (e : TypeId) (x : Nat) {z : Int} (h : z = (x : Int)) : Limb (a.alloc (.cells #[.int .u32 z] e)).drew a.heap.size x := rd_z a .u32 x e h
theorem Limb.l2 (a : World) (e : TypeId) (x : Nat) (o : Obj) {z : Int} (h : z = (x : Int)) : Limb ((a.alloc (.cells #[.int .u32 z] e)).alloc o).drew a.heap.size x := (rd_z a .u32 x e h).alloc o
theorem Limb.l3 (a : World) (e : TypeId) (x : Nat) (o : Obj) {z : Int} (h : z = (x : Int)) : Limb ((a.alloc o).alloc (.cells #[.int .u32 z] e)).drew (a.heap.size + 1) x := by
  have := rd_z (a.alloc o) .u32 x e h
  rw [hsz] at this
  exact this
theorem Limb.l4 (a : World) (e : TypeId) (x : Nat) {z : Int} (h : z = (x : Int)) : Limb (a.alloc (.cells #[.int .u32 z] e)) a.heap.size x := rd_z a .u32 x e h
theorem Num.al {w : World} {A : Option Addr} {n c R : Nat} {f : Nat → Nat} (h : Num w A n c f R) (o : Obj) : Num (w.alloc o) A n c f R := ⟨h.le, h.cap, h.rd.alloc o, h.lt, h.trm, h.val⟩

set_option maxRecDepth 100000 in
set_option maxHeartbeats 2000000 in
theorem rfromDigits_any (s : ByteArray) (w : World) (hs : s.size ≤ maxLen) :
    Calls Tryd.prog 8 #[.string s] w fun e w' => Res w w' e (fdR (bt s) s.size) (fdE (bt s) s.size) := by
  have HN := Lib.hid (num_nil w)
  unfold maxLen at hs
  by_cases hl : 4096 < s.size
  · have e1 : fdR (bt s) s.size = 0 := by unfold fdR; rw [if_pos hl]
    have e2 : fdE (bt s) s.size = 2 := by unfold fdE; rw [if_pos hl]
    rw [e1, e2]
    clear e1 e2
    go_enter Tryd.func8, Tryd.ntmps8
    go_wp2
    go_ret2
    exact ⟨_, _, _, _, rfl, HN.out, Below.refl _ _⟩
  · by_cases h0 : s.size = 0
    · have e1 : fdR (bt s) s.size = 0 := by unfold fdR; rw [if_neg hl, h0]; rfl
      have e2 : fdE (bt s) s.size = 4 := by unfold fdE; rw [if_neg hl, h0]; rfl
      rw [e1, e2]
      obtain rfl := nil_of h0
      clear e1 e2 h0 hl hs
      go_enter Tryd.func8, Tryd.ntmps8
      go_wp2
      go_ret2
      exact ⟨_, _, _, _, rfl, HN.out, Below.refl _ _⟩
    · have hne := not_nil (s := s) (by omega)
      have hl4 : s.size ≤ 4096 := by omega
      have HR : Hid (dgs (bt s) s.size = true → fdR (bt s) s.size = dv (bt s) s.size ∧ fdE (bt s) s.size = 0) := Lib.hid fun hd => by
        unfold fdR fdE
        rw [if_neg hl, if_neg hl, hd, decide_eq_true (by omega)]
        exact ⟨rfl, rfl⟩
      have HW : Hid (∀ i, i < s.size → ¬ (48 ≤ bt s i ∧ bt s i ≤ 57) → fdR (bt s) s.size = 0 ∧ fdE (bt s) s.size = 4) := Lib.hid fun i hi hy => by
        have hd : dgs (bt s) s.size = false := by
          cases hh : dgs (bt s) s.size with
          | false => rfl
          | true => exact absurd (dgs_at hh hi) hy
        unfold fdR fdE
        rw [if_neg hl, if_neg hl, hd]
        exact ⟨rfl, rfl⟩
      clear hl h0
      go_enter Tryd.func8, Tryd.ntmps8
      go_wp2_with fail
      go_loopw [4, 5] (fun s4 s5 wr => ∃ (i : Nat) (A' : Option Addr) (n' c' : Nat) (f' : Nat → Nat), i ≤ s.size ∧ s5 = .int .i64 (i : Int) ∧ s4 = .slice A' n' c' ∧ n' ≤ 3 * i ∧ Hid (dgs (bt s) i = true) ∧ Hid (Num wr A' n' c' f' (dv (bt s) i) ∧ Below w.heap.size w wr)) (fun _ s5 _ => s.size - (intOf s5).toNat)
      case atStart => exact ⟨0, none, 0, 0, fun _ => 0, Nat.zero_le _, rfl, rfl, Nat.le_refl _, Lib.hid rfl, Lib.hid ⟨HN.out, Below.refl _ _⟩⟩
      case round =>
        obtain ⟨i, A', n', c', f', hi, rfl, rfl, hn3, hd, hW⟩ := hrel
        by_cases hlt : i < s.size
        · have hx := bt_at hlt
          obtain ⟨x, hxx⟩ : ∃ x, s[i].toNat = x := ⟨_, rfl⟩
          have hx256 : x < 256 := by rw [← hxx]; exact s[i].toNat_lt
          rw [hxx] at hx
          by_cases hy : 48 ≤ x ∧ x ≤ 57
          · have HD : Hid (dgs (bt s) (i + 1) = true) := Lib.hid (by rw [dgs, hd.out, hx]; exact decide_eq_true hy)
            have HV : Hid (dv (bt s) (i + 1) = dv (bt s) i * 10 + (x - 48)) := Lib.hid (by rw [dv, hx])
            obtain ⟨h1, h2⟩ := hy
            obtain ⟨V, hV⟩ : ∃ V, dv (bt s) i = V := ⟨_, rfl⟩
            rw [hV] at hW HV
            have HT : Hid (∀ (W : World) (g : Nat), Stay wr W → Limb W g 10 → Calls Tryd.prog 24 #[.slice A' n' c', .slice (some ⟨g, 0, none⟩) 1 1] W fun e w' =>
                ∃ A5 n5 c5 f5, e = .returned (.slice A5 n5 c5) ∧ (Num w' A5 n5 c5 f5 (V * 10) ∧ n5 ≤ n' + 2) ∧ Stay wr w' ∧ ∀ g', Limb W g' (x - 48) → Limb w' g' (x - 48)) := Lib.hid fun W g hk hr => by
              have h := times_any A' (some ⟨g, 0, none⟩) n' 1 c' 1 f' (fun _ => 10) W (hW.out.1.rd.below hk) hr hW.out.1.lt (fun _ _ => by show 10 < 2 ^ 32; decide) (by omega) (by omega)
              have e : sm (2 ^ 32) (fun _ => 10) 1 = 10 := by simp [sm]
              rw [hW.out.1.val, e] at h
              exact h.mono fun e w' ⟨A5, n5, c5, f5, k1, k2, k3, k4⟩ => ⟨A5, n5, c5, f5, k1, ⟨k2, by omega⟩, Below.trans hk (k4.mono hk.size), fun g' hg => Rd.below hg k4⟩
            have HS : Hid (∀ (W : World) (A5 : Option Addr) (n5 c5 : Nat) (f5 : Nat → Nat) (g : Nat), Stay wr W → (Num W A5 n5 c5 f5 (V * 10) ∧ n5 ≤ n' + 2) → Limb W g (x - 48) → Calls Tryd.prog 23 #[.slice A5 n5 c5, .slice (some ⟨g, 0, none⟩) 1 1] W fun e w' =>
                ∃ A6 n6 c6 f6, e = .returned (.slice A6 n6 c6) ∧ (Num w' A6 n6 c6 f6 (V * 10 + (x - 48)) ∧ n6 ≤ n' + 3) ∧ Stay wr w') := Lib.hid fun W A5 n5 c5 f5 g hk ⟨hN, hle⟩ hr => by
              have h := rsum_any A5 (some ⟨g, 0, none⟩) n5 1 c5 1 f5 (fun _ => x - 48) W hN.rd hr hN.lt (fun _ _ => by show x - 48 < 2 ^ 32; omega) (by omega) (by omega)
              have e : sm (2 ^ 32) (fun _ => x - 48) 1 = x - 48 := by simp [sm]
              rw [hN.val, e] at h
              exact h.mono fun e w' ⟨A6, n6, c6, f6, k1, k2, k3, k4⟩ => ⟨A6, n6, c6, f6, k1, ⟨k2, by omega⟩, Below.trans hk (k4.mono hk.size)⟩
            obtain ⟨d, hdd⟩ : ∃ d, x - 48 = d := ⟨_, rfl⟩
            have t1 : IntKind.u8.wrap ((x : Int) - 48) = (d : Int) := by rw [IntKind.wrap_u8]; omega
            have t2 : IntKind.u32.wrap (d : Int) = (d : Int) := by rw [IntKind.wrap_u32]; omega
            rw [hdd] at HT HS HV
            have HB := Lib.hid hW.out.2
            clear hx hV hW hd hdd
            go_wp2_with fail
            go_region_with (first
              | (go_at_call 24
                 refine (HT.out _ _ (by first | exact Stay.a1 _ _ | exact Stay.a2 _ _ _) (by first | exact Limb.l1 _ _ 10 rfl | exact Limb.l2 _ _ 10 _ rfl | exact Limb.l3 _ _ 10 _ rfl)).mono ?_
                 rintro e w5 ⟨A5, n5, c5, f5, rfl, hn5, hk5, hd5⟩)
              | (go_at_call 23
                 refine (HS.out _ _ _ _ _ _ (by first | assumption | exact Stay.al (by assumption) _) (by first | assumption | exact ⟨Num.al (And.left (by assumption)) _, (And.right (by assumption))⟩) (by first | exact Limb.l4 _ _ _ rfl | (apply_assumption; first | exact Limb.l1 _ _ _ rfl | exact Limb.l2 _ _ _ _ rfl | exact Limb.l3 _ _ _ _ rfl))).mono ?_
                 rintro e w6 ⟨A6, n6, c6, f6, rfl, hn6, hk6⟩))
            all_goals
              have HF : Hid (Num w6 A6 n6 c6 f6 (dv (bt s) (i + 1)) ∧ Below w.heap.size w w6) := Lib.hid ⟨by rw [HV.out]; exact hn6.1, HB.out.trans (Below.mono hk6 HB.out.size)⟩
              have hn7 : n6 ≤ n' + 3 := hn6.2
              clear hn6 hk6 hn5 hk5 hd5 HT HS t1 t2
              go_wp2
              go_roundw
              case rel => exact ⟨i + 1, A6, n6, c6, f6, by omega, by go_num, rfl, by omega, HD, HF⟩
              case measure => simp [intOf]; omega
          · have HQ := Lib.hid (HW.out i hlt (by rw [hx]; exact hy))
            have HBB := Lib.hid hW.out.2
            clear hx
            by_cases h1 : 48 ≤ x
            · have h2 : 57 < x := by omega
              clear hy
              go_wp2
              go_ret2
              rw [HQ.out.1, HQ.out.2]
              exact ⟨_, _, _, _, rfl, num_nil _, HBB.out⟩
            · clear hy
              go_wp2
              go_ret2
              rw [HQ.out.1, HQ.out.2]
              exact ⟨_, _, _, _, rfl, num_nil _, HBB.out⟩
        · obtain rfl : i = s.size := by omega
          obtain ⟨r1, r2⟩ := HR.out hd.out
          have HR2 := Lib.hid (And.intro r1 r2)
          clear r1 r2
          go_wp2_with fail
          go_ret2
          rw [HR2.out.1, HR2.out.2]
          exact ⟨_, _, _, _, rfl, hW.out.1, hW.out.2⟩
end Go.Proofs.YtnikoojgoiobjaaDoor.nn
