/- Joined texts, what is wanted of them: FsA, FsB, FsC, FsT, FsD, FsE. -/
import Derived.Test.YtljbnnpmnoejeaaGreatDoorJh
import Derived.Test.YtljbnnpmnoejeaaGreatDoorJb
import Derived.Test.YtljbnnpmnoejeaaGreatDoorJg
import Derived.Test.YtljbnnpmnoejeaaGreatDoorJc
import Derived.Test.YtljbnnpmnoejeaaGreatDoorJe
import Derived.Test.YtljbnnpmnoejeaaGreatDoorJa
import Derived.Test.YtljbnnpmnoejeaaGreatDoorJd
import Derived.Test.YtljbnnpmnoejeaaGreatDoorJf
namespace Go.Proofs.YtljbnnpmnoejeaaGreatDoor.nn
open Go.RowKit

/-- two limbs in a new block -/
theorem U.two (w : World) (X : Nat) (T : TypeId) (hX : X < 18446744073709551616) : U (w.alloc (.cells #[.int .u32 ((X % 4294967296 : Nat) : Int), .int .u32 ((X / 4294967296 : Nat) : Int)] T)) (.slice (some ⟨w.heap.size, 0, none⟩) 2 2) X 2 := by
  obtain ⟨l1, l2⟩ := L2.sm hX
  refine ⟨_, 2, 2, _, rfl, Nat.le_refl _, by simp [maxLen], (fun _ => ⟨w.heap.size, 0, rfl, by rw [hsz]; omega, fun i hi => ?_⟩ : Rd _ .u32 (some ⟨w.heap.size, 0, none⟩) 2 (fun i => if i = 0 then X % 4294967296 else X / 4294967296)), l1, l2, Nat.le_refl _⟩
  rw [World.cell?_alloc_at _ _ _ _ rfl]
  rcases (by omega : i = 0 ∨ i = 1) with rfl | rfl <;> rfl
def LiAns (X : Nat) (w : World) (e : Ending) (w' : World) : Prop := ∃ g, e = .returned (.slice (some ⟨g, 0, none⟩) 2 2) ∧ U w' (.slice (some ⟨g, 0, none⟩) 2 2) X 2 ∧ Below w.heap.size w w'
set_option maxRecDepth 100000 in
theorem rlimbs_any (X : Nat) (w : World) (hX : X < 18446744073709551616) :
    Calls Tryz.prog 182 #[.int .u64 (X : Int)] w (LiAns X w) := by
  have e1 : (X : Int) % 4294967296 = ((X % 4294967296 : Nat) : Int) := by omega
  have e2 : (X : Int) / 4294967296 = ((X / 4294967296 : Nat) : Int) := by omega
  have hl : X / 4294967296 < 4294967296 := by omega
  have hU := Lib.hid (fun T => U.two w X T hX)
  obtain ⟨lo, hlo⟩ : ∃ lo, X % 4294967296 = lo := ⟨_, rfl⟩
  obtain ⟨hi, hhi⟩ : ∃ hi, X / 4294967296 = hi := ⟨_, rfl⟩
  rw [hlo] at e1
  rw [hhi] at e2 hl
  rw [hlo, hhi] at hU
  have hlb : lo < 4294967296 := by omega
  clear hlo hhi
  go_enter Tryz.func182, Tryz.ntmps182
  go_wp2
  go_ret
  exact ⟨_, rfl, hU.out _, (Below.refl _ _).alloc (Nat.le_refl _) _⟩

/-- two numbers are answered, of at most n limbs -/
def UA2 (w : World) (X Y n : Nat) (e : Ending) (w' : World) : Prop := ∃ v u, e = .returned (.tuple #[v, u]) ∧ U w' v X n ∧ U w' u Y n ∧ Below w.heap.size w w'
set_option maxRecDepth 100000 in
set_option maxHeartbeats 1000000 in
theorem rratio_any (m : Nat) (e : Int) (w : World) (hm : m < 18446744073709551616) (h1 : -1074 ≤ e) (h2 : e ≤ 971) :
    Calls Tryz.prog 96 #[.int .u64 (m : Int), .int .i64 e] w (UA2 w (fA m e) (fB e) 40) := by
  have e1 : (m : Int) % 4294967296 = ((m % 4294967296 : Nat) : Int) := by omega
  have e2 : (m : Int) / 4294967296 = ((m / 4294967296 : Nat) : Int) := by omega
  have hl : m / 4294967296 < 4294967296 := by omega
  have HU := Lib.hid (fun T => U.two w m T hm)
  have HTW := Lib.hid (fun n W (hn : n ≤ 100000) => (two_any n W hn : Calls _ _ _ _ (TwAns n W)))
  obtain ⟨lo, hlo⟩ : ∃ lo, m % 4294967296 = lo := ⟨_, rfl⟩
  obtain ⟨hi, hhi⟩ : ∃ hi, m / 4294967296 = hi := ⟨_, rfl⟩
  rw [hlo] at e1
  rw [hhi] at e2 hl
  rw [hlo, hhi] at HU
  have hlb : lo < 4294967296 := by omega
  have HO := Lib.hid (fun W => U.one W 1 72 (by decide))
  rw [show ((1 : Nat) : Int) = 1 from rfl] at HO
  have HB := Lib.hid (((Below.refl w.heap.size w).alloc (Nat.le_refl _) (.cells #[.int .u32 (lo : Int), .int .u32 (hi : Int)] 72)).alloc (by rw [hsz]; omega) (.cells #[.int .u32 1] 72))
  have HU2 := Lib.hid ((HU.out 72).alloc (.cells #[.int .u32 1] 72))
  have ho2 := HO.out (w.alloc (.cells #[.int .u32 (lo : Int), .int .u32 (hi : Int)] 72))
  rw [hsz] at ho2
  have HO2 := Lib.hid ho2
  clear hlo hhi HU HO ho2
  by_cases c : 0 ≤ e
  · obtain ⟨n, rfl⟩ := Int.eq_ofNat_of_zero_le c
    have hn : n ≤ 971 := by omega
    have HA : Hid (fA m (n : Int) = m * 2 ^ n) := Lib.hid rfl
    have HF : Hid (fB (n : Int) = 1) := Lib.hid (by unfold fB; rw [show (-(n : Int)).toNat = 0 by omega, Nat.pow_zero])
    have HT := Lib.hid (fun v u W (hv : U W v m 2) (hu : U W u (2 ^ n) (n / 32 + 1)) => rtimes_u v u m (2 ^ n) 2 (n / 32 + 1) W hv hu (by omega) (by omega))
    clear h1 h2
    go_enter Tryz.func96, Tryz.ntmps96
    go_wp2_with fail
    refine (HTW.out n _ (by omega)).mono ?_
    rintro r w1 ⟨t1, rfl, hu1, hb1⟩
    have B1 := Lib.hid (HB.out.trans (hb1.mono HB.out.size))
    have U1 := Lib.hid (And.intro (HU2.out.below hb1) (HO2.out.below hb1))
    have V1 := Lib.hid hu1
    clear hb1 hu1
    go_wp2_with fail
    refine (HT.out _ _ _ U1.out.1 V1.out).mono ?_
    rintro r w2 ⟨t2, rfl, _, hu2, hb2⟩
    have B2 := Lib.hid (B1.out.trans (hb2.mono B1.out.size))
    have U2 := Lib.hid (And.intro (hu2.wide (by omega : 2 + (n / 32 + 1) + 1 ≤ 40)) ((U1.out.2.below hb2).wide (by omega : 1 ≤ 40)))
    clear hb2 hu2
    go_wp2_with fail
    go_ret2
    exact ⟨_, _, rfl, by rw [HA.out]; exact U2.out.1, by rw [HF.out]; exact U2.out.2, B2.out⟩
  · obtain ⟨n, hn⟩ : ∃ n : Nat, -e = (n : Int) := ⟨(-e).toNat, by omega⟩
    have HA : Hid (fA m e = m) := Lib.hid (by unfold fA; rw [show e.toNat = 0 by omega, Nat.pow_zero, Nat.mul_one])
    have HF : Hid (fB e = 2 ^ n) := Lib.hid (by unfold fB; rw [hn]; rfl)
    have hn4 : n ≤ 1074 := by omega
    have he : e < 0 := by omega
    clear h2 c
    go_enter Tryz.func96, Tryz.ntmps96
    go_wp2_with fail
    refine (HTW.out n _ (by omega)).mono ?_
    rintro r w1 ⟨t1, rfl, hu1, hb1⟩
    have B1 := Lib.hid (HB.out.trans (hb1.mono HB.out.size))
    have U1 := Lib.hid (And.intro ((HU2.out.below hb1).wide (by omega : 2 ≤ 40)) (hu1.wide (by omega : n / 32 + 1 ≤ 40)))
    clear hb1 hu1
    go_wp2_with fail
    go_ret2
    exact ⟨_, _, rfl, by rw [HA.out]; exact U1.out.1, by rw [HF.out]; exact U1.out.2, B1.out⟩

set_option maxRecDepth 100000 in
set_option maxHeartbeats 1000000 in
theorem rscale_any (v u : Value) (a b : Nat) (z : Int) (w : World) (hv : U w v a 40) (hu : U w u b 40) (h1 : -450 ≤ z) (h2 : z ≤ 450) :
    Calls Tryz.prog 145 #[v, u, .int .i64 z] w (UA2 w (scX a z) (scY b z) 500) := by
  have HPW := Lib.hid (fun n W (hn : n ≤ 3000) => power_any n W hn)
  have HV := Lib.hid (fun W (h : Below w.heap.size w W) => And.intro (hv.below h) (hu.below h))
  clear hv hu
  by_cases c : 0 ≤ z
  · obtain ⟨n, rfl⟩ := Int.eq_ofNat_of_zero_le c
    have HA : Hid (scX a (n : Int) = a) := Lib.hid (by unfold scX; rw [show (-(n : Int)).toNat = 0 by omega, Nat.pow_zero, Nat.mul_one])
    have HF : Hid (scY b (n : Int) = b * 10 ^ n) := Lib.hid rfl
    have PW := Lib.hid (fun W => HPW.out n W (by omega))
    unfold PoAns at PW
    have HT := Lib.hid (fun t W (h : Below w.heap.size w W) (ht : U W t (10 ^ n) 400) => rtimes_u u t b (10 ^ n) 40 400 W (HV.out W h).2 ht (by omega) (by omega))
    have hn : n ≤ 450 := by omega
    clear h1 h2
    go_enter Tryz.func145, Tryz.ntmps145
    go_wp2_with fail
    refine (PW.out _).mono ?_
    rintro r w1 ⟨t1, rfl, hu1, hb1⟩
    have B1 := Lib.hid hb1
    have U1 := Lib.hid hu1
    clear hb1 hu1
    go_wp2_with fail
    refine (HT.out _ _ B1.out U1.out).mono ?_
    rintro r w2 ⟨t2, rfl, _, hu2, hb2⟩
    have B2 := Lib.hid (B1.out.trans (hb2.mono B1.out.size))
    have U2 := Lib.hid (hu2.wide (by omega : 40 + 400 + 1 ≤ 500))
    clear hb2 hu2
    go_wp2_with fail
    go_ret2
    exact ⟨_, _, rfl, by rw [HA.out]; exact (HV.out _ B2.out).1.wide (by omega), by rw [HF.out]; exact U2.out, B2.out⟩
  · obtain ⟨n, hn⟩ : ∃ n : Nat, -z = (n : Int) := ⟨(-z).toNat, by omega⟩
    have HA : Hid (scX a z = a * 10 ^ n) := Lib.hid (by unfold scX; rw [hn]; rfl)
    have HF : Hid (scY b z = b) := Lib.hid (by unfold scY; rw [show z.toNat = 0 by omega, Nat.pow_zero, Nat.mul_one])
    have PW := Lib.hid (fun W => HPW.out n W (by omega))
    unfold PoAns at PW
    have HT := Lib.hid (fun t W (h : Below w.heap.size w W) (ht : U W t (10 ^ n) 400) => rtimes_u v t a (10 ^ n) 40 400 W (HV.out W h).1 ht (by omega) (by omega))
    have hn4 : n ≤ 450 := by omega
    have hz : z < 0 := by omega
    clear h2 c
    go_enter Tryz.func145, Tryz.ntmps145
    go_wp2_with fail
    refine (PW.out _).mono ?_
    rintro r w1 ⟨t1, rfl, hu1, hb1⟩
    have B1 := Lib.hid hb1
    have U1 := Lib.hid hu1
    clear hb1 hu1
    go_wp2_with fail
    refine (HT.out _ _ B1.out U1.out).mono ?_
    rintro r w2 ⟨t2, rfl, _, hu2, hb2⟩
    have B2 := Lib.hid (B1.out.trans (hb2.mono B1.out.size))
    have U2 := Lib.hid (hu2.wide (by omega : 40 + 400 + 1 ≤ 500))
    clear hb2 hu2
    go_wp2_with fail
    go_ret2
    exact ⟨_, _, rfl, by rw [HA.out]; exact U2.out, by rw [HF.out]; exact (HV.out _ B2.out).2.wide (by omega), B2.out⟩
end Go.Proofs.YtljbnnpmnoejeaaGreatDoor.nn
namespace Go.Proofs.YtljbnnpmnoejeaaGreatDoor.nn
open Go.RowKit

theorem fs_byte {s : ByteArray} {a : Nat} (h : a < s.size) : ∃ y, s[a].toNat = y ∧ bt s a = y ∧ y < 256 := ⟨_, rfl, bt_at h, s[a].toNat_lt⟩
theorem cm_neg {a b : Nat} : decide (cm a b < 0) = decide (a < b) := by
  unfold cm
  by_cases h : a < b
  · rw [if_pos h, decide_eq_true h]; decide
  · rw [if_neg h, decide_eq_false h]
    split <;> decide
set_option maxRecDepth 100000 in
set_option maxHeartbeats 2000000 in
theorem rhigh_any (v u : Value) (a b : Nat) (K d : Int) (w : World) (hv : U w v a 40) (hu : U w u b 40) (hd : (bl a : Int) - (bl b : Int) = d) (hd1 : -3000 ≤ d) (hd2 : d ≤ 3000)
    (h1 : ¬ lt10 a b K) (h2 : lt10 a b (K + 1)) (h3 : h0z d ≤ K) (h4 : K ≤ h0z d + 6) (h5 : -400 ≤ h0z d) (h6 : h0z d ≤ 400) :
    Calls Tryz.prog 97 #[v, u] w fun e w' => e = .returned (.int .i64 K) ∧ Below w.heap.size w w' := by
  have HS := Lib.hid (fun z W (h : Below w.heap.size w W) (g1 : -450 ≤ z) (g2 : z ≤ 450) => rscale_any v u a b z W (hv.below h) (hu.below h) g1 g2)
  unfold UA2 at HS
  have HBA := Lib.hid (rbits_u v a 40 w hv (by omega))
  have HBB := Lib.hid (fun W (hW : Below w.heap.size w W) => rbits_u u b 40 W (hu.below hW) (by omega))
  have HM := Lib.hid (And.intro h1 h2)
  obtain ⟨x, hx⟩ : ∃ x, bl a = x := ⟨_, rfl⟩
  obtain ⟨y, hy⟩ : ∃ y, bl b = y := ⟨_, rfl⟩
  rw [hx] at HBA hd
  rw [hy] at HBB hd
  obtain ⟨z, hz⟩ : ∃ z, h0z d = z := ⟨_, rfl⟩
  rw [hz] at h3 h4 h5 h6
  have hq : (d * 30103).tdiv 100000 = z + 2 := by rw [← hz]; unfold h0z; omega
  clear hv hu hx hy h1 h2 hz
  go_enter Tryz.func97, Tryz.ntmps97
  go_wp2_with fail
  refine HBA.out.mono ?_
  rintro r w1 ⟨rfl, hb⟩
  have B1 := Lib.hid hb
  clear hb
  go_wp2_with fail
  refine (HBB.out _ B1.out).mono ?_
  rintro r w2 ⟨rfl, hb⟩
  have B2 := Lib.hid (B1.out.trans (hb.mono B1.out.size))
  clear hb B1
  go_wp2_with fail
  go_loopw [5, 6] (fun s5 s6 wr => ∃ i : Nat, i ≤ 6 ∧ z + (i : Int) ≤ K ∧ s6 = .int .i64 (i : Int) ∧ s5 = .int .i64 (z + (i : Int)) ∧ Hid (Below w.heap.size w wr)) (fun _ s6 _ => 6 - (intOf s6).toNat)
  case atStart => exact ⟨0, by omega, by omega, rfl, by first | rfl | (congr 1; omega), Lib.hid B2.out⟩
  case round =>
    obtain ⟨i, hi, hK, rfl, rfl, hH⟩ := hrel
    by_cases hlt : i < 6
    · obtain ⟨X, hX⟩ : ∃ X, scX a (z + (i : Int) + 1) = X := ⟨_, rfl⟩
      obtain ⟨Y, hY⟩ : ∃ Y, scY b (z + (i : Int) + 1) = Y := ⟨_, rfl⟩
      have S1 := Lib.hid (HS.out (z + (i : Int) + 1) _ hH.out (by omega) (by omega))
      rw [hX, hY] at S1
      have hXY := cm_neg (a := X) (b := Y)
      have HC := Lib.hid (fun v1 u1 W (g1 : U W v1 X 500) (g2 : U W u1 Y 500) => rcmp_u v1 u1 X Y 500 500 W g1 g2 (by omega) (by omega))
      by_cases hk : z + (i : Int) = K
      · have hl : X < Y := by rw [← hX, ← hY, hk]; exact HM.out.2
        rw [decide_eq_true hl] at hXY
        obtain ⟨c, hc⟩ : ∃ c, cm X Y = c := ⟨_, rfl⟩
        rw [hc] at hXY HC
        have hc0 := of_decide_eq_true hXY
        clear hXY hl hX hY hc
        subst hk
        go_wp2_with fail
        refine S1.out.mono ?_
        rintro r w3 ⟨v3, u3, rfl, g1, g2, hb⟩
        have B3 := Lib.hid (hH.out.trans (hb.mono hH.out.size))
        have U3 := Lib.hid (And.intro g1 g2)
        clear hb g1 g2
        go_wp2_with fail
        refine (HC.out _ _ _ U3.out.1 U3.out.2).mono ?_
        rintro r w4 ⟨rfl, hb⟩
        have B4 := Lib.hid (B3.out.trans (hb.mono B3.out.size))
        clear hb
        go_wp2_with fail
        go_ret
        exact ⟨rfl, B4.out⟩
      · have hl : ¬ X < Y := by
          rw [← hX, ← hY]
          intro g
          exact HM.out.1 (lt10_mono (by omega) g)
        rw [decide_eq_false hl] at hXY
        obtain ⟨c, hc⟩ : ∃ c, cm X Y = c := ⟨_, rfl⟩
        rw [hc] at hXY HC
        have hc0 := of_decide_eq_false hXY
        have hc1 : 0 ≤ c := by omega
        clear hXY hl hX hY hc hc0
        go_wp2_with fail
        refine S1.out.mono ?_
        rintro r w3 ⟨v3, u3, rfl, g1, g2, hb⟩
        have B3 := Lib.hid (hH.out.trans (hb.mono hH.out.size))
        have U3 := Lib.hid (And.intro g1 g2)
        clear hb g1 g2
        go_wp2_with fail
        refine (HC.out _ _ _ U3.out.1 U3.out.2).mono ?_
        rintro r w4 ⟨rfl, hb⟩
        have B4 := Lib.hid (B3.out.trans (hb.mono B3.out.size))
        clear hb
        go_wp2_with fail
        go_roundw
        case rel => exact ⟨i + 1, by omega, by omega, by go_num, congrArg (Value.int .i64) (by omega), Lib.hid B4.out⟩
        case measure => simp [intOf]; omega
    · obtain rfl : i = 6 := by omega
      obtain rfl : K = z + ((6 : Nat) : Int) := by omega
      go_wp2_with fail
      go_ret
      exact ⟨rfl, hH.out⟩

/-- the trimmed digits of a number above 0 -/
def tdL (x : Nat) : List UInt8 := Lib.trimRightB (Lib.decDigits x) 48
def tdT (x : Nat) : ByteArray := ⟨(tdL x).toArray⟩
def tdE (x : Nat) (p : Int) : Int := p + ((Lib.decDigits x).length : Int) - ((tdL x).length : Int)
/-- a number's digits -/
def dT (x : Nat) : ByteArray := ⟨(Lib.decDigits x).toArray⟩
theorem dT_size (x : Nat) : (dT x).size = (Lib.decDigits x).length := List.size_toArray
theorem dT_len {x : Nat} (hx : x < 18446744073709551616) : 1 ≤ (dT x).size ∧ (dT x).size ≤ 20 := by
  rw [dT_size, Lib.decDigits_length]
  refine ⟨Lib.nDigits_pos x, nd_le 20 x (by decide) (by rw [show (10 : Nat) ^ 20 = 100000000000000000000 by decide]; omega)⟩
def DgAns (x : Nat) (w : World) (e : Ending) (w' : World) : Prop := e = .returned (.tuple #[.string (dT x), .int .i64 0]) ∧ Below w.heap.size w w'
theorem rdg_u (v : Value) (x m : Nat) (w : World) (h : U w v x m) (hm : m ≤ 4096) (hc : ∀ A n c, v = .slice A n c → c * 4 ≤ 140737488351232) :
    Calls Tryz.prog 51 #[v] w (DgAns x w) := by
  obtain ⟨A, n, c, f, rfl, h1, h2, h3, h4, h5, h6⟩ := h
  have := rdigits_any A n c f w h3 h4 h1 (hc _ _ _ rfl)
  have hl : ¬ 4096 < tr f n := by have := tr_le f n; omega
  have e1 : dgT n f = Lib.decDigits x := by unfold dgT; rw [if_neg hl, h5]
  have e2 : dgE n f = 0 := by unfold dgE; rw [if_neg hl]
  rw [e1, e2] at this
  exact this
theorem rdg_two (g : Nat) (x : Nat) (w : World) (h : U w (.slice (some ⟨g, 0, none⟩) 2 2) x 2) : Calls Tryz.prog 51 #[.slice (some ⟨g, 0, none⟩) 2 2] w (DgAns x w) :=
  rdg_u _ x 2 w h (by omega) (fun A n c hv => by injection hv with _ _ h3; omega)

theorem cutT_cut {D : ByteArray} {n k : Nat} (hn : n ≤ D.size) (hk : k ≤ n) : cutT (cutT D 0 n) 0 k = cutT D 0 k := by
  have s1 : (cutT D 0 n).size = n := by rw [cutT_size hn]; omega
  have s2 : (cutT (cutT D 0 n) 0 k).size = k := by rw [cutT_size (by omega)]; omega
  have s3 : (cutT D 0 k).size = k := by rw [cutT_size (by omega)]; omega
  refine fba_ext (by rw [s2, s3]) fun i hi => ?_
  rw [s2] at hi
  rw [bt_cutT (by omega) (by omega), bt_cutT (by omega) (by omega), bt_cutT (by omega) (by omega)]
  congr 1
  omega
theorem cutT_all (D : ByteArray) : cutT D 0 D.size = D := by
  have s1 : (cutT D 0 D.size).size = D.size := by rw [cutT_size (Nat.le_refl _)]; omega
  refine fba_ext s1 fun i hi => ?_
  rw [bt_cutT (Nat.le_refl _) (by omega), Nat.zero_add]
def TdAns (x : Nat) (p : Int) (w : World) (e : Ending) (w' : World) : Prop := e = .returned (.tuple #[.string (tdT x), .int .i64 (tdE x p)]) ∧ Below w.heap.size w w'
set_option maxRecDepth 100000 in
set_option maxHeartbeats 2000000 in
theorem rdigits6_any (x : Nat) (p : Int) (w : World) (h0 : 0 < x) (hx : x < 18446744073709551616) (h1 : -1000 ≤ p) (h2 : p ≤ 1000) :
    Calls Tryz.prog 148 #[.int .u64 (x : Int), .int .i64 p] w (TdAns x p w) := by
  have HL := Lib.hid (rlimbs_any x w hx)
  unfold LiAns at HL
  have HD := Lib.hid (fun g W (h : U W (.slice (some ⟨g, 0, none⟩) 2 2) x 2) => rdg_two g x W h)
  unfold DgAns at HD
  obtain ⟨l1, l2⟩ := dT_len hx
  -- what is left when nothing more is cut
  have HE : Hid (∀ S : ByteArray, 1 ≤ S.size → S.size ≤ (dT x).size → S = cutT (dT x) 0 S.size → (∀ i, S.size ≤ i → i < (dT x).size → bt (dT x) i = 48) → (S.size = 1 ∨ bt S (S.size - 1) ≠ 48) → S = tdT x ∧ p + ((dT x).size : Int) - (S.size : Int) = tdE x p) := Lib.hid fun S g1 g2 g3 g4 g5 => by
    rw [dT_size] at g2 g4 ⊢
    have g6 : bt S (S.size - 1) = bt (dT x) (S.size - 1) := by
      have := bt_cutT (s := dT x) (a := 0) (b := S.size) (i := S.size - 1) (by rw [dT_size]; exact g2) (by omega)
      rw [Nat.zero_add] at this
      rw [← this, ← g3]
    rw [g6] at g5
    obtain ⟨k1, k2⟩ := trim_cut h0 g1 g2 g4 g5
    refine ⟨g3.trans k1, ?_⟩
    unfold tdE tdL
    rw [← k2]
  obtain ⟨D, hD⟩ : ∃ D, dT x = D := ⟨_, rfl⟩
  rw [hD] at HD HE l1 l2
  clear hD
  go_enter Tryz.func148, Tryz.ntmps148
  go_wp2_with fail
  refine HL.out.mono ?_
  rintro r w1 ⟨g, rfl, hu, hb⟩
  have B1 := Lib.hid hb
  have U1 := Lib.hid hu
  clear hb hu
  go_wp2_with fail
  refine (HD.out g _ U1.out).mono ?_
  rintro r w2 ⟨rfl, hb⟩
  have B2 := Lib.hid (B1.out.trans (hb.mono B1.out.size))
  clear hb
  go_wp2_with fail
  go_loopw [1, 6] (fun s1 s6 wr => ∃ S : ByteArray, 1 ≤ S.size ∧ S.size ≤ D.size ∧ s6 = .string S ∧ s1 = .int .i64 (p + (D.size : Int) - (S.size : Int)) ∧ Hid (S = cutT D 0 S.size ∧ ∀ i, S.size ≤ i → i < D.size → bt D i = 48) ∧ Hid (Below w.heap.size w wr)) (fun _ s6 _ => match s6 with | .string S => S.size | _ => 0)
  case atStart => exact ⟨D, l1, Nat.le_refl _, rfl, congrArg (Value.int .i64) (by omega), Lib.hid ⟨(cutT_all D).symm, fun i g1 g2 => by omega⟩, Lib.hid B2.out⟩
  case round =>
    obtain ⟨S, hS1, hS2, rfl, rfl, hI, hH⟩ := hrel
    by_cases hone : S.size = 1
    · obtain ⟨f1, f2⟩ := HE.out S hS1 hS2 hI.out.1 hI.out.2 (.inl hone)
      have F := Lib.hid (And.intro f1 f2)
      clear f1 f2
      go_wp2_with fail
      go_ret2
      exact ⟨by rw [← F.out.2, ← F.out.1]; rfl, hH.out⟩
    · obtain ⟨y, hy1, hy2, hy3⟩ := fs_byte (s := S) (a := S.size - 1) (by omega)
      have hidx : ((S.size : Int) - 1).toNat = S.size - 1 := by omega
      have h1S : 1 < S.size := by omega
      by_cases hy : y = 48
      · subst hy
        have SL : Hid (∀ W, (Instr.slice 9 (.string S) none (some (.int .i64 ((S.size : Int) - 1))) none).run Tryz.prog W = .ok (.string (cutT S 0 (S.size - 1))) W) := Lib.hid fun W => by
          have h := run_slice_string_to_if (P := Tryz.prog) (w := W) 9 S .i64 ((S.size : Int) - 1) Tryz.underlying9
          rw [if_pos (by omega), hidx] at h
          exact h
        obtain ⟨T, hT⟩ : ∃ T, cutT S 0 (S.size - 1) = T := ⟨_, rfl⟩
        have hTs : T.size = S.size - 1 := by rw [← hT, cutT_size (by omega)]; omega
        have HI2 : Hid (T = cutT D 0 T.size ∧ ∀ i, T.size ≤ i → i < D.size → bt D i = 48) := Lib.hid (by
          have e := hI.out.1
          rw [hTs]
          constructor
          · rw [← hT]
            have := cutT_cut (D := D) (n := S.size) (k := S.size - 1) hS2 (by omega)
            rw [← e] at this
            exact this
          · intro i g1 g2
            rcases (by omega : i = S.size - 1 ∨ S.size ≤ i) with rfl | g
            · have := bt_cutT (s := D) (a := 0) (b := S.size) (i := S.size - 1) hS2 (by omega)
              rw [Nat.zero_add, ← e, hy2] at this
              exact this.symm
            · exact hI.out.2 i g g2)
        rw [hT] at SL
        have sl := SL.out
        clear hy2 hT
        go_wp2_with fail
        go_roundw
        case rel => exact ⟨T, by omega, by omega, rfl, congrArg (Value.int .i64) (by omega), HI2, Lib.hid hH.out⟩
        case measure => simp; omega
      · obtain ⟨f1, f2⟩ := HE.out S hS1 hS2 hI.out.1 hI.out.2 (.inr (by rw [hy2]; exact hy))
        have F := Lib.hid (And.intro f1 f2)
        have hyq : ((y : Int) == 48) = false := by rw [beq_eq_false_iff_ne]; omega
        clear f1 f2 hy2 hone
        go_wp2_with fail
        go_ret2
        exact ⟨by rw [← F.out.2, ← F.out.1]; rfl, hH.out⟩

theorem dT_num (x : Nat) : dgs (bt (dT x)) (dT x).size = true ∧ dv (bt (dT x)) (dT x).size = x := by
  obtain ⟨r1, r2⟩ := dec_read x
  rw [dT_size]
  unfold dT
  rw [dgs_congr (g := lf_ (Lib.decDigits x)) (fun i hi => bt_lf _ i hi), dv_congr (g := lf_ (Lib.decDigits x)) (fun i hi => bt_lf _ i hi)]
  exact ⟨r1, r2⟩
end Go.Proofs.YtljbnnpmnoejeaaGreatDoor.nn
namespace Go.Proofs.YtljbnnpmnoejeaaGreatDoor.nn
open Go.RowKit

set_option maxRecDepth 100000 in
set_option maxHeartbeats 1000000 in
theorem ris_any (x : Nat) (z : Int) (b : Nat) (B : Bool) (w : World) (hx : x < 18446744073709551616) (h1 : -1000 ≤ z) (h2 : z ≤ 1000) (hb : b < inf) (hB : RN (dT x) z b ↔ B = true) :
    Calls Tryz.prog 147 #[.int .u64 (x : Int), .int .i64 z, .int .u64 (b : Int)] w fun e w' => e = .returned (.bool B) ∧ Below w.heap.size w w' := by
  have HL := Lib.hid (rlimbs_any x w hx)
  unfold LiAns at HL
  have HD := Lib.hid (fun g W (h : U W (.slice (some ⟨g, 0, none⟩) 2 2) x 2) => rdg_two g x W h)
  unfold DgAns at HD
  obtain ⟨l1, l2⟩ := dT_len hx
  obtain ⟨c, hc⟩ := RN_ex (dT x) z
  have HR := Lib.hid (fun W => rround_yes false (dT x) z c W (rf_ok (by omega) l1 (dT_num x).1 (by omega) (by omega)) hc)
  unfold RoAns at HR
  have hBc : c = b ↔ B = true := by
    rw [← hB]
    exact ⟨fun g => by rw [← g]; exact hc, fun g => near_uniq (rY_pos z) hc g⟩
  have hcs : (c < inf ∧ roV false c = c ∧ roE c = 0) ∨ (B = false ∧ roE c = 8) := by
    rcases Nat.lt_or_ge c inf with g | g
    · exact .inl ⟨g, by unfold roV sB; rw [if_pos g, if_neg (by decide), Nat.zero_add], if_pos g⟩
    · right
      refine ⟨?_, if_neg (by omega)⟩
      cases B with
      | false => rfl
      | true => have := hBc.2 rfl; omega
  obtain ⟨D, hD⟩ : ∃ D, dT x = D := ⟨_, rfl⟩
  rw [hD] at HD HR l1 l2
  obtain ⟨V, hV⟩ : ∃ V, roV false c = V := ⟨_, rfl⟩
  obtain ⟨E, hE⟩ : ∃ E, roE c = E := ⟨_, rfl⟩
  rw [hV, hE] at HR hcs
  have hfin : (E = 0 ∧ ((V : Int) == (b : Int)) = B) ∨ (E = 8 ∧ B = false) := by
    rcases hcs with ⟨g1, g2, g3⟩ | ⟨g1, g2⟩
    · left
      refine ⟨g3, ?_⟩
      rw [g2]
      cases hBB : B with
      | true => rw [beq_iff_eq, hBc.2 hBB]
      | false =>
        rw [beq_eq_false_iff_ne]
        intro g
        have := hBc.1 (by omega)
        rw [hBB] at this
        cases this
    · exact .inr ⟨g2, g1⟩
  clear hD hV hE hcs hBc hB hc hb
  rcases hfin with ⟨rfl, hq⟩ | ⟨rfl, rfl⟩
  all_goals
    go_enter Tryz.func147, Tryz.ntmps147
    go_wp2_with fail
    refine HL.out.mono ?_
    rintro r w1 ⟨g, rfl, hu, hb⟩
    have B1 := Lib.hid hb
    have U1 := Lib.hid hu
    clear hb hu
    go_wp2_with fail
    refine (HD.out g _ U1.out).mono ?_
    rintro r w2 ⟨rfl, hb⟩
    have B2 := Lib.hid (B1.out.trans (hb.mono B1.out.size))
    clear hb
    go_wp2_with fail
    refine (HR.out _).mono ?_
    rintro r w3 ⟨rfl, hb⟩
    have B3 := Lib.hid (B2.out.trans (hb.mono B2.out.size))
    clear hb
    go_wp2_with fail
    go_ret
    exact ⟨rfl, B3.out⟩
end Go.Proofs.YtljbnnpmnoejeaaGreatDoor.nn
namespace Go.Proofs.YtljbnnpmnoejeaaGreatDoor.nn
open Go.RowKit

/-- what try answers -/
def tyT (o : Option Nat) : ByteArray := match o with | none => ⟨#[]⟩ | some q => tdT q
def tyE (o : Option Nat) (z : Int) : Int := match o with | none => 0 | some q => tdE q z
def tyB (o : Option Nat) : Bool := match o with | none => false | some _ => true
def TyAns (o : Option Nat) (z : Int) (w : World) (e : Ending) (w' : World) : Prop := e = .returned (.tuple #[.string (tyT o), .int .i64 (tyE o z), .bool (tyB o)]) ∧ Below w.heap.size w w'
set_option maxRecDepth 100000 in
set_option maxHeartbeats 1000000 in
theorem rtry_any (v u : Value) (a b : Nat) (z : Int) (bits q : Nat) (low top : Bool) (c : Int) (o : Option Nat) (w : World) (hv : U w v a 40) (hu : U w u b 40) (hb0 : 0 < b) (h1 : -450 ≤ z) (h2 : z ≤ 450) (hbi : bits < inf)
    (hq : scX a z / scY b z = q) (hq0 : 0 < q) (hq1 : q < 9223372036854775807) (hl : RN (dT q) z bits ↔ low = true) (ht : RN (dT (q + 1)) z bits ↔ top = true) (hc : cm (scX a z % scY b z * 2) (scY b z) = c) (ho : tqN q low top c = o) :
    Calls Tryz.prog 98 #[v, u, .int .i64 z, .int .u64 (bits : Int)] w (TyAns o z w) := by
  have HS := Lib.hid (rscale_any v u a b z w hv hu h1 h2)
  unfold UA2 at HS
  have hY0 := scY_pos hb0 z
  obtain ⟨X, hX⟩ : ∃ X, scX a z = X := ⟨_, rfl⟩
  obtain ⟨Y, hY⟩ : ∃ Y, scY b z = Y := ⟨_, rfl⟩
  rw [hX, hY] at HS hq hc
  rw [hY] at hY0
  have hXY : X < Y * 2 ^ 63 := by
    have h : X / Y < 2 ^ 63 := by rw [hq]; omega
    rw [Nat.mul_comm]
    exact (Nat.div_lt_iff_lt_mul hY0).1 h
  have HQ := Lib.hid (fun v1 u1 W (g1 : U W v1 X 500) (g2 : U W u1 Y 500) => quot_any v1 u1 X Y 500 500 W g1 g2 (by omega) (by omega) hY0 hXY)
  unfold QuAns at HQ
  rw [hq] at HQ
  obtain ⟨R, hR⟩ : ∃ R, X % Y = R := ⟨_, rfl⟩
  rw [hR] at HQ hc
  have HC := Lib.hid (fun v1 u1 W (g1 : U W v1 (R * 2) 600) (g2 : U W u1 Y 500) => rcmp_u v1 u1 (R * 2) Y 600 500 W g1 g2 (by omega) (by omega))
  rw [hc] at HC
  have HR2 := Lib.hid (fun v1 W (h : U W v1 R 500) => by
    have := rtimes_u v1 _ R 2 500 1 _ (h.alloc _) (U.one W 2 72 (by decide)) (by omega) (by omega)
    rw [show ((2 : Nat) : Int) = 2 from rfl] at this
    exact this)
  have HI1 := Lib.hid (fun W => ris_any q z bits low W (by omega) (by omega) (by omega) hbi hl)
  have HI2 := Lib.hid (fun W => ris_any (q + 1) z bits top W (by omega) (by omega) (by omega) hbi ht)
  have HD1 := Lib.hid (fun W => rdigits6_any q z W hq0 (by omega) (by omega) (by omega))
  have HD2 := Lib.hid (fun W => rdigits6_any (q + 1) z W (by omega) (by omega) (by omega) (by omega))
  unfold TdAns at HD1 HD2
  have hc3 : c = 1 ∨ c = 0 ∨ c = -1 := by rw [← hc]; unfold cm; split; (right; right; rfl); (split; (right; left; rfl); (left; rfl))
  have ho' : (low = false ∧ top = false ∧ o = none) ∨ (top = false ∧ low = true ∧ o = some q) ∨ (top = true ∧ low = false ∧ o = some (q + 1)) ∨ (top = true ∧ low = true ∧ ((c = 1 ∧ o = some (q + 1)) ∨ (c = 0 ∧ q % 2 = 1 ∧ o = some (q + 1)) ∨ (c = 0 ∧ q % 2 = 0 ∧ o = some q) ∨ (c = -1 ∧ o = some q))) := by
    rw [← ho]
    unfold tqN
    cases low <;> cases top
    · exact .inl ⟨rfl, rfl, if_pos ⟨rfl, rfl⟩⟩
    · exact .inr (.inr (.inl ⟨rfl, rfl, by rw [if_neg (by simp), if_pos (by simp)]⟩))
    · exact .inr (.inl ⟨rfl, rfl, by rw [if_neg (by simp), if_neg (by simp)]⟩)
    · refine .inr (.inr (.inr ⟨rfl, rfl, ?_⟩))
      rw [if_neg (by simp)]
      rcases hc3 with rfl | rfl | rfl
      · exact .inl ⟨rfl, if_pos ⟨rfl, .inr (.inl (by decide))⟩⟩
      · rcases (by omega : q % 2 = 1 ∨ q % 2 = 0) with g | g
        · exact .inr (.inl ⟨rfl, g, if_pos ⟨rfl, .inr (.inr ⟨rfl, g⟩)⟩⟩)
        · exact .inr (.inr (.inl ⟨rfl, g, if_neg (by rintro ⟨_, k | k | ⟨_, k⟩⟩; (cases k); (exact absurd k (by decide)); omega)⟩))
      · exact .inr (.inr (.inr ⟨rfl, if_neg (by rintro ⟨_, k | k | ⟨k, _⟩⟩; (cases k); (exact absurd k (by decide)); (exact absurd k (by decide)))⟩))
  obtain ⟨q1, hqq⟩ : ∃ q1, q + 1 = q1 := ⟨_, rfl⟩
  rw [hqq] at HI2 HD2 ho'
  have hqi : (q : Int) + 1 = (q1 : Int) := by omega
  have hq2 : q1 < 9223372036854775808 := by omega
  clear hv hu hb0 hbi hq hl ht hc ho hX hY hY0 hXY hR hqq
  unfold TyAns
  rcases ho' with ⟨rfl, rfl, rfl⟩ | ⟨rfl, rfl, rfl⟩ | ⟨rfl, rfl, rfl⟩ | ⟨rfl, rfl, ⟨rfl, rfl⟩ | ⟨rfl, par, rfl⟩ | ⟨rfl, par, rfl⟩ | ⟨rfl, rfl⟩⟩
  all_goals
    first
      | (have hpar : ((q : Int) % 2 == 1) = true := by rw [beq_iff_eq]; omega)
      | (have hpar : ((q : Int) % 2 == 1) = false := by rw [beq_eq_false_iff_ne]; omega)
      | skip
    go_enter Tryz.func98, Tryz.ntmps98
    go_wp2_with fail
    refine HS.out.mono ?_
    rintro r w1 ⟨v1, u1, rfl, g1, g2, hb⟩
    have B1 := Lib.hid hb
    have U1 := Lib.hid (And.intro g1 g2)
    clear hb g1 g2
    go_wp2_with fail
    refine (HQ.out _ _ _ U1.out.1 U1.out.2).mono ?_
    rintro r w2 ⟨v2, rfl, g1, hb⟩
    have B2 := Lib.hid (B1.out.trans (hb.mono B1.out.size))
    have U2 := Lib.hid (And.intro g1 (U1.out.2.below hb))
    clear hb g1
    go_wp2_with fail
    refine (HI1.out _).mono ?_
    rintro r w3 ⟨rfl, hb⟩
    have B3 := Lib.hid (B2.out.trans (hb.mono B2.out.size))
    have U3 := Lib.hid (And.intro (U2.out.1.below hb) (U2.out.2.below hb))
    clear hb
    go_wp2_with fail
    refine (HI2.out _).mono ?_
    rintro r w4 ⟨rfl, hb⟩
    have B4 := Lib.hid (B3.out.trans (hb.mono B3.out.size))
    have U4 := Lib.hid (And.intro (U3.out.1.below hb) (U3.out.2.below hb))
    have R4 := Lib.hid (HR2.out v2 _ U4.out.1)
    clear hb
    go_wp2_with fail
    first
      | exact bodyPost_ret (by simp [results, Tryz.results98, go_sem, tyT, tyE, tyB]) rfl ⟨rfl, B4.out⟩
      | (refine R4.out.mono ?_
         rintro r w5 ⟨v5, rfl, _, g1, hb⟩
         have B5 := Lib.hid ((B4.out.alloc B4.out.size (.cells #[.int .u32 2] 72)).trans (hb.mono (by have := B4.out.size; rw [hsz]; omega)))
         have U5 := Lib.hid (And.intro (g1.wide (by omega : 500 + 1 + 1 ≤ 600)) ((U4.out.2.alloc (.cells #[.int .u32 2] 72)).below hb))
         clear hb g1
         go_wp2_with fail
         refine (HC.out _ _ _ U5.out.1 U5.out.2).mono ?_
         rintro r w6 ⟨rfl, hb⟩
         have B6 := Lib.hid (B5.out.trans (hb.mono B5.out.size))
         clear hb
         go_wp2_with fail
         first
           | with_reducible refine (HD1.out _).mono ?_
           | with_reducible refine (HD2.out _).mono ?_
         rintro r w7 ⟨rfl, hb⟩
         have B7 := Lib.hid (B6.out.trans (hb.mono B6.out.size))
         clear hb
         go_wp2_with fail
         exact bodyPost_ret (by simp [results, Tryz.results98, go_sem, tyT, tyE, tyB]) rfl ⟨rfl, B7.out⟩)
end Go.Proofs.YtljbnnpmnoejeaaGreatDoor.nn
namespace Go.Proofs.YtljbnnpmnoejeaaGreatDoor.nn
open Go.RowKit

/-- the digits of a multiple -/
theorem td_mul {m : Nat} {e : Int} {q j : Nat} (h0 : 0 < q) (h : q * 10 ^ j = shN m e) : tdT q = shD m e ∧ tdE q (spP m e + (j : Int)) = shE m e := by
  have hd := dec_zeros h0 j
  rw [h] at hd
  have ht : tdL q = shL m e := by
    unfold tdL shL
    rw [hd, trimR_rep]
  refine ⟨by unfold tdT shD; rw [ht], ?_⟩
  unfold tdE shE
  rw [ht, hd, List.length_append, List.length_replicate]
  omega
theorem fe_place2 {m : Nat} {e : Int} (hF : Fe m e) : -400 ≤ spP m e ∧ spP m e ≤ 300 := by
  obtain ⟨q1, q2, q3, q4, q5⟩ := hF
  rw [h52] at q2
  have b1 := (bl_ge (N := m) (by omega)).2
  have b2 : bl m ≤ 53 := bl_le (k := 53) (by omega)
  unfold spP dcm; omega
/-- what try answers at a place -/
theorem try_at {m : Nat} {e : Int} (hF : Fe m e) (hi : bm m e < inf) (j : Nat) (hj1 : 1 ≤ j) (hj2 : j ≤ j0 (spA m e)) (v u : Value) (w : World) (hv : U w v (fA m e) 40) (hu : U w u (fB e) 40) :
    ∃ o, cd (spA m e) (spM m e) (spF m e) (spL m e) (10 ^ j) = o.map (· * 10 ^ j) ∧ (∀ q, o = some q → 0 < q) ∧ Calls Tryz.prog 98 #[v, u, .int .i64 (spP m e + (j : Int)), .int .u64 (bm m e : Int)] w (TyAns o (spP m e + (j : Int)) w) := by
  obtain ⟨h0, h1, h2⟩ := hF.ends
  obtain ⟨a1, a2, a3, a4, a5⟩ := hF.span
  obtain ⟨w1, w2⟩ := hF.wide
  have hpl := fe_place2 hF
  have hj18 : j ≤ 18 := by rcases j0_le (spA m e) with g | g <;> omega
  have hA : 10 ^ j ≤ spA m e := by
    refine Nat.le_trans (Nat.pow_le_pow_right (by decide) hj2) ?_
    unfold j0
    split
    · rw [show (10 : Nat) ^ 18 = 1000000000000000000 by decide]; omega
    · rw [show (10 : Nat) ^ 17 = 100000000000000000 by decide]; omega
  have hP0 : 0 < 10 ^ j := Nat.pow_pos (by decide)
  obtain ⟨i, rfl⟩ : ∃ i, j = i + 1 := ⟨j - 1, by omega⟩
  have hP2 : 10 ^ (i + 1) = 2 * (5 * 10 ^ i) := by rw [Nat.pow_succ]; omega
  have h50 : 0 < 5 * 10 ^ i := Nat.mul_pos (by decide) (Nat.pow_pos (by decide))
  obtain ⟨r1, r2, _⟩ := same_ratio (scY_pos (fB_pos e) (spP m e + ((i + 1 : Nat) : Int))) (Nat.mul_pos h0 hP0) (scale_eq m e (i + 1) rfl)
  obtain ⟨k1, k2⟩ := doc_half (W := 4 * m * spX m e) h0 hP2 h50
  rw [k1] at r1
  rw [← r2] at k2
  have eA : 4 * m * spX m e / spY m e = spA m e := rfl
  have eM : decide (0 < 4 * m * spX m e % spY m e) = spM m e := rfl
  rw [eA] at r1
  rw [eA, eM] at k2
  have hq0 : 0 < spA m e / 10 ^ (i + 1) := Nat.div_pos hA hP0
  have hq1 : spA m e / 10 ^ (i + 1) < 9223372036854775807 := Nat.lt_of_le_of_lt (Nat.div_le_self _ _) (by omega)
  have near := fun q => hF.near (dT q) (i + 1) (spP m e + ((i + 1 : Nat) : Int)) rfl
  have near2 : ∀ q, (spF m e ≤ q * 10 ^ (i + 1) ∧ q * 10 ^ (i + 1) ≤ spL m e) ↔ RN (dT q) (spP m e + ((i + 1 : Nat) : Int)) (bm m e) := fun q => by
    have := near q
    rw [(dT_num q).2] at this
    exact this.symm
  have bool : ∀ P : Prop, ∃ B : Bool, P ↔ B = true := fun P => by
    by_cases h : P
    · exact ⟨true, fun _ => rfl, fun _ => h⟩
    · exact ⟨false, fun g => absurd g h, fun g => by cases g⟩
  obtain ⟨low, hl⟩ := bool (RN (dT (spA m e / 10 ^ (i + 1))) (spP m e + ((i + 1 : Nat) : Int)) (bm m e))
  obtain ⟨top, ht⟩ := bool (RN (dT (spA m e / 10 ^ (i + 1) + 1)) (spP m e + ((i + 1 : Nat) : Int)) (bm m e))
  refine ⟨tqN (spA m e / 10 ^ (i + 1)) low top (cm (scX (fA m e) (spP m e + ((i + 1 : Nat) : Int)) % scY (fB e) (spP m e + ((i + 1 : Nat) : Int)) * 2) (scY (fB e) (spP m e + ((i + 1 : Nat) : Int)))), ?_, ?_, ?_⟩
  · exact tq_cd hP0 rfl a4 w1 ((near2 _).trans hl) ((near2 _).trans ht) k2
  · intro q hq
    unfold tqN at hq
    split at hq
    · cases hq
    · split at hq
      · injection hq with hq; omega
      · injection hq with hq; omega
  · exact rtry_any v u (fA m e) (fB e) (spP m e + ((i + 1 : Nat) : Int)) (bm m e) _ low top _ _ w hv hu (fB_pos e) (by omega) (by omega) hi r1 hq0 hq1 hl ht rfl rfl
theorem cd_last {m : Nat} {e : Int} (hF : Fe m e) : cd (spA m e) (spM m e) (spF m e) (spL m e) (10 ^ (j0 (spA m e) - 16)) ≠ none := by
  obtain ⟨w1, w2⟩ := hF.wide
  by_cases hA : 1000000000000000000 ≤ spA m e
  · have ej : j0 (spA m e) = 18 := if_pos hA
    rw [ej]
    have hw := fe_wide2 hF hA
    intro g
    have := cd_none g ((spF m e + 99) / 100)
    rw [show (10 : Nat) ^ (18 - 16) = 100 by decide] at this
    omega
  · have ej : j0 (spA m e) = 17 := if_neg hA
    rw [ej]
    exact cd_wide w2
def TrAns (D : ByteArray) (E : Int) (B : Bool) (w : World) (e : Ending) (w' : World) : Prop := e = .returned (.tuple #[.string D, .int .i64 E, .bool B]) ∧ Below w.heap.size w w'
/-- a step of the search -/
theorem short_step {m : Nat} {e : Int} (hF : Fe m e) (hi : bm m e < inf) (n : Nat) (h1 : 1 ≤ n) (h2 : n ≤ 17) (hr : fws (spA m e) (spM m e) (spF m e) (spL m e) (j0 (spA m e) - n + 1) = shN m e) (v u : Value) (w : World) (hv : U w v (fA m e) 40) (hu : U w u (fB e) 40) :
    (n < 17 ∧ fws (spA m e) (spM m e) (spF m e) (spL m e) (j0 (spA m e) - (n + 1) + 1) = shN m e ∧ Calls Tryz.prog 98 #[v, u, .int .i64 (kk m e - (n : Int) + 1), .int .u64 (bm m e : Int)] w (TrAns ⟨#[]⟩ 0 false w))
    ∨ Calls Tryz.prog 98 #[v, u, .int .i64 (kk m e - (n : Int) + 1), .int .u64 (bm m e : Int)] w (TrAns (shD m e) (shE m e) true w) := by
  have hj := j0_le (spA m e)
  have hl := cd_last hF
  obtain ⟨o, c1, c2, c3⟩ := try_at hF hi (j0 (spA m e) - n + 1) (by omega) (by omega) v u w hv hu
  have ez : spP m e + ((j0 (spA m e) - n + 1 : Nat) : Int) = kk m e - (n : Int) + 1 := by unfold kk; omega
  rw [fws, c1] at hr
  cases o with
  | none =>
    left
    have hn : n < 17 := by
      rcases (by omega : n < 17 ∨ n = 17) with g | rfl
      · exact g
      · exfalso
        rw [show j0 (spA m e) - 17 + 1 = j0 (spA m e) - 16 by omega] at c1
        exact hl c1
    refine ⟨hn, ?_, ?_⟩
    · rw [show j0 (spA m e) - (n + 1) + 1 = j0 (spA m e) - n by omega]
      exact hr
    · rw [ez] at c3
      exact c3
  | some q =>
    right
    obtain ⟨t1, t2⟩ := td_mul (c2 q rfl) hr
    have c4 : Calls _ _ _ _ (TrAns (tdT q) (tdE q (spP m e + ((j0 (spA m e) - n + 1 : Nat) : Int))) true w) := c3
    rw [t1, t2, ez] at c4
    exact c4
set_option maxRecDepth 100000 in
set_option maxHeartbeats 1000000 in
theorem rshortest_no (x : Nat) (w : World) (hx : x < 18446744073709551616) (h : xaO x = false) : Calls Tryz.prog 53 #[.int .u64 (x : Int)] w (ShAns ⟨#[]⟩ 0 1 w) := by
  have H := Lib.hid (fun W => rexact_any x W hx)
  unfold XaAns at H
  rw [h] at H
  generalize xaS x = S at H
  generalize xaM x = M at H
  generalize xaE x = E at H
  go_enter Tryz.func53, Tryz.ntmps53
  go_wp2_with fail
  refine (H.out _).mono ?_
  rintro r w1 ⟨rfl, hb⟩
  go_wp2_with fail
  exact bodyPost_ret (by simp [results, Tryz.results53, go_sem]) rfl ⟨rfl, hb⟩
set_option maxRecDepth 100000 in
set_option maxHeartbeats 1000000 in
theorem rshortest_zero (x : Nat) (w : World) (hx : x < 18446744073709551616) (h : xaO x = true) (hm : xaM x = 0) : Calls Tryz.prog 53 #[.int .u64 (x : Int)] w (ShAns ⟨#[48]⟩ 0 0 w) := by
  have H := Lib.hid (fun W => rexact_any x W hx)
  unfold XaAns at H
  rw [h, hm] at H
  generalize xaS x = S at H
  generalize xaE x = E at H
  go_enter Tryz.func53, Tryz.ntmps53
  go_wp2_with fail
  refine (H.out _).mono ?_
  rintro r w1 ⟨rfl, hb⟩
  go_wp2_with fail
  exact bodyPost_ret (by simp [results, Tryz.results53, go_sem]) rfl ⟨rfl, hb⟩
set_option maxRecDepth 100000 in
set_option maxHeartbeats 4000000 in
theorem rshortest_yes (x : Nat) (w : World) (hx : x < 18446744073709551616) (h : xaO x = true) (hF : Fe (xaM x) (xaE x)) (hb : bm (xaM x) (xaE x) = x % 9223372036854775808) (hi : bm (xaM x) (xaE x) < inf) :
    Calls Tryz.prog 53 #[.int .u64 (x : Int)] w (ShAns (shD (xaM x) (xaE x)) (shE (xaM x) (xaE x)) 0 w) := by
  have H := Lib.hid (fun W => rexact_any x W hx)
  unfold XaAns at H
  rw [h] at H
  have hand : bits .and .u64 (x : Int) 9223372036854775807 = (bm (xaM x) (xaE x) : Int) := by
    have := u64_and_nat x 9223372036854775807 hx (by decide)
    rw [show ((9223372036854775807 : Nat) : Int) = 9223372036854775807 from rfl] at this
    rw [this, hb, show (9223372036854775807 : Nat) = 2 ^ 63 - 1 by decide, Nat.and_two_pow_sub_one_eq_mod]
  generalize xaS x = S at H
  generalize xaM x = m at H hF hb hi hand ⊢
  generalize xaE x = e at H hF hb hi hand ⊢
  obtain ⟨q1, q2, q3, q4, q5⟩ := hF
  have hF : Fe m e := ⟨q1, q2, q3, q4, q5⟩
  rw [h52] at q2
  have HRA := Lib.hid (fun W => rratio_any m e W (by omega) q3 q4)
  unfold UA2 at HRA
  obtain ⟨k1, k2⟩ := kk_is hF
  obtain ⟨k3, k4, k5, k6⟩ := kk_near hF
  have hbl : bl m ≤ 53 := bl_le (k := 53) (by omega)
  have HHI := Lib.hid (fun v u W (hv : U W v (fA m e) 40) (hu : U W u (fB e) 40) => rhigh_any v u (fA m e) (fB e) (kk m e) ((bl m : Int) - 1 + e) W hv hu (fa_bits (by omega)) (by omega) (by omega) k1 k2 k3 k4 k5 k6)
  have HST := Lib.hid (fun n h1 h2 hr v u W hv hu => short_step hF hi n h1 h2 hr v u W hv hu)
  have HR0 : Hid (fws (spA m e) (spM m e) (spF m e) (spL m e) (j0 (spA m e) - 1 + 1) = shN m e) := Lib.hid (by rw [show j0 (spA m e) - 1 + 1 = j0 (spA m e) by rcases j0_le (spA m e) with g | g <;> omega]; rfl)
  obtain ⟨K, hK⟩ : ∃ K, kk m e = K := ⟨_, rfl⟩
  rw [hK] at HHI HST k3 k4
  obtain ⟨b, hbb⟩ : ∃ b, bm m e = b := ⟨_, rfl⟩
  rw [hbb] at hand HST hi
  rw [inf_eq] at hi
  have hKb : -400 ≤ K ∧ K ≤ 410 := by omega
  have hm0 : ((m : Int) == 0) = false := by rw [beq_eq_false_iff_ne]; omega
  clear hb k1 k2 k3 k4 k5 k6 hbl hK hbb hF q2 q3 q4 q5
  go_enter Tryz.func53, Tryz.ntmps53
  go_wp2_with fail
  refine (H.out _).mono ?_
  rintro r w1 ⟨rfl, hb⟩
  have B1 := Lib.hid hb
  clear hb
  go_wp2_with fail
  refine (HRA.out _).mono ?_
  rintro r w2 ⟨v2, u2, rfl, g1, g2, hb⟩
  have B2 := Lib.hid (B1.out.trans (hb.mono B1.out.size))
  have U2 := Lib.hid (And.intro g1 g2)
  clear hb g1 g2
  go_wp2_with fail
  refine (HHI.out _ _ _ U2.out.1 U2.out.2).mono ?_
  rintro r w3 ⟨rfl, hb⟩
  have B3 := Lib.hid (B2.out.trans (hb.mono B2.out.size))
  have U3 := Lib.hid (And.intro (U2.out.1.below hb) (U2.out.2.below hb))
  clear hb
  go_wp2_with fail
  go_loopw [12] (fun s12 wr => ∃ n : Nat, 1 ≤ n ∧ n ≤ 17 ∧ s12 = .int .i64 (n : Int) ∧ Hid (fws (spA m e) (spM m e) (spF m e) (spL m e) (j0 (spA m e) - n + 1) = shN m e) ∧ Hid (Below w3.heap.size w3 wr)) (fun s12 _ => 18 - (intOf s12).toNat)
  case atStart => exact ⟨1, by omega, by omega, rfl, Lib.hid HR0.out, Lib.hid (Below.refl _ _)⟩
  case round =>
    obtain ⟨n, hn1, hn2, rfl, hR, hH⟩ := hrel
    have HU := Lib.hid (And.intro (U3.out.1.below hH.out) (U3.out.2.below hH.out))
    have HB := Lib.hid (B3.out.trans (hH.out.mono B3.out.size))
    rcases HST.out n hn1 hn2 hR.out _ _ _ HU.out.1 HU.out.2 with ⟨c1, c2, c3⟩ | c3
    · have C3 := Lib.hid c3
      have C2 := Lib.hid c2
      unfold TrAns at C3
      clear c2 c3
      go_wp2_with fail
      refine C3.out.mono ?_
      rintro r w4 ⟨rfl, hb⟩
      have H4 := Lib.hid (hH.out.trans (hb.mono hH.out.size))
      clear hb
      go_wp2_with fail
      go_roundw
      case rel => exact ⟨n + 1, by omega, by omega, by go_num, C2, H4⟩
      case measure => simp [intOf]; omega
    · have C3 := Lib.hid c3
      unfold TrAns at C3
      clear c3
      go_wp2_with fail
      refine C3.out.mono ?_
      rintro r w4 ⟨rfl, hb⟩
      have H4 := Lib.hid (HB.out.trans (hb.mono HB.out.size))
      clear hb
      go_wp2_with fail
      exact bodyPost_ret (by simp [results, Tryz.results53, go_sem]) rfl ⟨rfl, H4.out⟩
end Go.Proofs.YtljbnnpmnoejeaaGreatDoor.nn
namespace Go.Proofs.YtljbnnpmnoejeaaGreatDoor.nn
open Go.RowKit

/-- a sign's text -/
def sgS (g : Bool) : ByteArray := if g then ⟨#[45]⟩ else ⟨#[]⟩
theorem zk_next (i : Nat) : zk i ++ ⟨#[48]⟩ = zk (i + 1) := by
  refine ByteArray.ext ?_
  rw [ByteArray.data_append]
  show (List.replicate i (48 : UInt8)).toArray ++ #[48] = (List.replicate (i + 1) 48).toArray
  apply Array.ext'
  simp [List.replicate_succ']
set_option maxRecDepth 100000 in
set_option maxHeartbeats 1000000 in
theorem rzeros_any (n : Nat) (w : World) (hn : n ≤ 100000) :
    Calls Tryz.prog 55 #[.int .i64 (n : Int)] w fun e w' => e = .returned (.string (zk n)) ∧ Below w.heap.size w w' := by
  have HB := Lib.hid (Below.refl w.heap.size w)
  go_enter Tryz.func55, Tryz.ntmps55
  go_wp2_with fail
  go_loopw [3, 4] (fun s3 s4 wr => ∃ (i : Nat) (S : ByteArray), i ≤ n ∧ s4 = .int .i64 (i : Int) ∧ s3 = .string S ∧ S.size = i ∧ Hid (S = zk i) ∧ Hid (Below w.heap.size w wr)) (fun _ s4 _ => n - (intOf s4).toNat)
  case atStart => exact ⟨0, ⟨#[]⟩, Nat.zero_le _, rfl, rfl, rfl, Lib.hid rfl, HB⟩
  case round =>
    obtain ⟨i, S, hi, rfl, rfl, hS, hZ, hH⟩ := hrel
    by_cases hlt : i < n
    · have HZ : Hid (S ++ ⟨#[48]⟩ = zk (i + 1)) := Lib.hid (by rw [hZ.out, zk_next])
      have hs1 : (S ++ ⟨#[48]⟩).size = i + 1 := by rw [ByteArray.size_append, hS]; rfl
      go_wp2_with fail
      go_roundw
      case rel => exact ⟨i + 1, S ++ ⟨#[48]⟩, by omega, by go_num, rfl, hs1, HZ, Lib.hid hH.out⟩
      case measure => simp [intOf]; omega
    · obtain rfl : i = n := by omega
      go_wp2_with fail
      go_ret
      exact ⟨by rw [hZ.out]; rfl, hH.out⟩
def NuAns (z : Int) (w : World) (e : Ending) (w' : World) : Prop := e = .returned (.string ⟨(Lib.itoa z).toArray⟩) ∧ Below w.heap.size w w'
set_option maxRecDepth 100000 in
set_option maxHeartbeats 1000000 in
theorem rnumber_pos (n : Nat) (w : World) (hn : n ≤ 100000) :
    Calls Tryz.prog 54 #[.int .i64 (n : Int)] w (NuAns (n : Int) w) := by
  have HB := Lib.hid ((Below.refl w.heap.size w).alloc (Nat.le_refl _) (.cells #[.int .u32 (n : Int)] 72))
  have HU := Lib.hid (U.one w n 72 (by omega))
  have HD := Lib.hid (fun g W (h : U W (.slice (some ⟨g, 0, none⟩) 1 1) n 1) => rdg_u _ n 1 W h (by omega) (fun A k c hv => by injection hv with _ _ h3; omega))
  unfold DgAns at HD
  have HT : Hid (dT n = ⟨(Lib.itoa (n : Int)).toArray⟩) := Lib.hid (by unfold dT Lib.itoa; rw [if_neg (by omega), Int.toNat_natCast])
  go_enter Tryz.func54, Tryz.ntmps54
  go_wp2_with fail
  refine (HD.out _ _ HU.out).mono ?_
  rintro r w1 ⟨rfl, hb⟩
  have B1 := Lib.hid (HB.out.trans (hb.mono HB.out.size))
  clear hb
  go_wp2_with fail
  go_ret
  exact ⟨by rw [HT.out]; rfl, B1.out⟩
theorem itoa_neg {n : Nat} (h : 0 < n) : (⟨#[45]⟩ : ByteArray) ++ ⟨(Lib.itoa (n : Int)).toArray⟩ = ⟨(Lib.itoa (-(n : Int))).toArray⟩ := by
  refine ByteArray.ext ?_
  rw [ByteArray.data_append]
  unfold Lib.itoa
  rw [if_neg (by omega), if_pos (by omega), Int.natAbs_neg, Int.natAbs_natCast, Int.toNat_natCast]
  simp
set_option maxRecDepth 100000 in
set_option maxHeartbeats 1000000 in
theorem rnumber_any (z : Int) (w : World) (h1 : -100000 ≤ z) (h2 : z ≤ 100000) :
    Calls Tryz.prog 54 #[.int .i64 z] w (NuAns z w) := by
  by_cases c : 0 ≤ z
  · obtain ⟨n, rfl⟩ := Int.eq_ofNat_of_zero_le c
    exact rnumber_pos n w (by omega)
  · obtain ⟨n, hn⟩ : ∃ n : Nat, -z = (n : Int) := ⟨(-z).toNat, by omega⟩
    have HN := Lib.hid (fun W => rnumber_pos n W (by omega))
    unfold NuAns at HN
    have HT := Lib.hid (itoa_neg (n := n) (by omega))
    have ez : z = -(n : Int) := by omega
    have hsz : ByteArray.size ⟨(Lib.itoa (n : Int)).toArray⟩ ≤ 25 := by
      have h := itoa_small (e := (n : Int)) (by omega)
      show (Lib.itoa (n : Int)).toArray.size ≤ 25
      rw [List.size_toArray]
      exact h
    have HE : Hid ((⟨(Lib.itoa (-(n : Int))).toArray⟩ : ByteArray) = ⟨(Lib.itoa z).toArray⟩) := Lib.hid (by rw [ez])
    have HB := Lib.hid (Below.refl w.heap.size w)
    obtain ⟨T, hT⟩ : ∃ T : ByteArray, ⟨(Lib.itoa (n : Int)).toArray⟩ = T := ⟨_, rfl⟩
    rw [hT] at HN HT hsz
    have hz : z < 0 := by omega
    clear hT ez c h2
    go_enter Tryz.func54, Tryz.ntmps54
    go_wp2_with fail
    refine (HN.out _).mono ?_
    rintro r w1 ⟨rfl, hb⟩
    have B1 := Lib.hid hb
    clear hb
    go_wp2_with fail
    go_ret
    exact ⟨by rw [← HE.out, ← HT.out]; rfl, by first | exact B1.out | exact drew_below B1.out _⟩

/-- the pieces of a text with an exponent -/
theorem wx_one {sg D I : ByteArray} {e : Int} (hI : (⟨(Lib.itoa e).toArray⟩ : ByteArray) = I) (h : D.size = 1) : sg ++ D ++ ⟨#[101]⟩ ++ I = sg ++ ⟨(wxL D e).toArray⟩ := by
  subst hI
  refine ByteArray.ext ?_
  have h1 : cutT D 0 1 = D := by rw [← h]; exact cutT_all D
  unfold wxL
  rw [if_neg (by omega), h1]
  simp only [ByteArray.data_append]
  apply Array.ext'
  simp
theorem wx_more {sg D I : ByteArray} {e : Int} (hI : (⟨(Lib.itoa e).toArray⟩ : ByteArray) = I) (h : 1 < D.size) : sg ++ (cutT D 0 1 ++ ⟨#[46]⟩ ++ cutT D 1 D.size) ++ ⟨#[101]⟩ ++ I = sg ++ ⟨(wxL D e).toArray⟩ := by
  subst hI
  refine ByteArray.ext ?_
  unfold wxL
  rw [if_pos h]
  simp only [ByteArray.data_append]
  apply Array.ext'
  simp
set_option maxRecDepth 100000 in
set_option maxHeartbeats 1000000 in
theorem rtext_no (x : Nat) (w : World) (D : ByteArray) (E : Int) (HS : Hid (∀ W, Calls Tryz.prog 53 #[.int .u64 (x : Int)] W (ShAns D E 1 W))) :
    Calls Tryz.prog 26 #[.int .u64 (x : Int)] w (TxAns ⟨#[]⟩ 1 w) := by
  go_enter Tryz.func26, Tryz.ntmps26
  go_wp2_with fail
  refine (HS.out _).mono ?_
  rintro r w1 ⟨rfl, hb⟩
  go_wp2_with fail
  exact bodyPost_ret (by simp [results, Tryz.results26, go_sem]) rfl ⟨rfl, hb⟩
set_option maxRecDepth 100000 in
set_option maxHeartbeats 8000000 in
theorem rtext_yes (x : Nat) (w : World) (hx : x < 18446744073709551616) (D : ByteArray) (E : Int) (h0 : 0 < D.size) (hs : D.size ≤ 500) (he : -80000 ≤ E ∧ E ≤ 80000)
    (HS : Hid (∀ W, Calls Tryz.prog 53 #[.int .u64 (x : Int)] W (ShAns D E 0 W))) :
    Calls Tryz.prog 26 #[.int .u64 (x : Int)] w (TxAns (sgS (decide (9223372036854775808 ≤ x)) ++ loT D (D.size + E)) 0 w) := by
  obtain ⟨ng, hng⟩ : ∃ b, decide (9223372036854775808 ≤ x) = b := ⟨_, rfl⟩
  have hsh : ((x : Int) / 9223372036854775808 == 1) = ng := by
    rw [← hng]
    by_cases c : 9223372036854775808 ≤ x
    · rw [decide_eq_true c, beq_iff_eq]; omega
    · rw [decide_eq_false c, beq_eq_false_iff_ne]; omega
  rw [hng]
  obtain ⟨p, hp⟩ : ∃ p, (D.size : Int) + E = p := ⟨_, rfl⟩
  have HZ := Lib.hid (fun n W (hn : n ≤ 100000) => rzeros_any n W hn)
  have HN := Lib.hid (fun W => rnumber_any (p - 1) W (by omega) (by omega))
  unfold NuAns at HN
  have hI6 : ByteArray.size ⟨(Lib.itoa (p - 1)).toArray⟩ ≤ 25 := by
    have h := itoa_small (e := p - 1) (by omega)
    show (Lib.itoa (p - 1)).toArray.size ≤ 25
    rw [List.size_toArray]
    exact h
  obtain ⟨I, hI⟩ : ∃ I : ByteArray, ⟨(Lib.itoa (p - 1)).toArray⟩ = I := ⟨_, rfl⟩
  rw [hI] at HN hI6
  have HI := Lib.hid hI
  clear hI
  obtain ⟨sg, hsg⟩ : ∃ sg : ByteArray, sgS ng = sg := ⟨_, rfl⟩
  rw [hp, hsg]
  have hpb : -90000 ≤ p ∧ p ≤ 90000 := by omega
  by_cases c1 : p < -5 ∨ 21 < p
  · have HL : Hid (loT D p = ⟨(wxL D (p - 1)).toArray⟩) := Lib.hid (by unfold loT; rw [if_pos c1])
    by_cases c2 : 1 < D.size
    · have HX := Lib.hid (wx_more (sg := sg) HI.out c2)
      obtain ⟨D1, hD1⟩ : ∃ t, cutT D 0 1 = t := ⟨_, rfl⟩
      obtain ⟨D2, hD2⟩ : ∃ t, cutT D 1 D.size = t := ⟨_, rfl⟩
      have hs1 : D1.size = 1 := by rw [← hD1, cutT_size (by omega)]
      have hs2 : D2.size = D.size - 1 := by rw [← hD2, cutT_size (by omega)]
      have sl1 : ∀ W, (Instr.slice 9 (.string D) none (some (.int .i64 1)) none).run Tryz.prog W = .ok (.string D1) W := fun W => by
        rw [run_slice_string_h (w := W) (s := D) (ht := Tryz.underlying9) (h0 := by omega) (h2 := by omega), ← hD1]
        rfl
      have sl2 : ∀ W, (Instr.slice 9 (.string D) (some (.int .i64 1)) none none).run Tryz.prog W = .ok (.string D2) W := fun W => by
        rw [run_slice_string_l (w := W) (s := D) (ht := Tryz.underlying9) (h0 := by omega) (h1 := by omega), ← hD2]
        rfl
      rw [hD1, hD2] at HX
      clear hD1 hD2 hng
      rcases c1 with c1 | c1 <;> cases ng
      all_goals
        first | (obtain rfl : sg = ⟨#[45]⟩ := hsg.symm) | (obtain rfl : sg = ⟨#[]⟩ := hsg.symm)
        rw [HL.out, ← HX.out]
        go_enter Tryz.func26, Tryz.ntmps26
        go_wp2_with fail
        refine (HS.out _).mono ?_
        rintro r w1 ⟨rfl, hb⟩
        have B1 := Lib.hid hb
        clear hb
        go_wp2_with fail
        go_quiet (fail)
        go_wp2_with fail
        refine (HN.out _).mono ?_
        rintro r w2 ⟨rfl, hb⟩
        have B2 := Lib.hid ((drew_below B1.out _).trans (hb.mono B1.out.size))
        clear hb
        go_wp2_with fail
        exact bodyPost_ret (by simp [results, Tryz.results26, go_sem]) rfl ⟨rfl, B2.out⟩
    · have HX := Lib.hid (wx_one (sg := sg) HI.out (show D.size = 1 by omega))
      clear hng
      rcases c1 with c1 | c1 <;> cases ng
      all_goals
        first | (obtain rfl : sg = ⟨#[45]⟩ := hsg.symm) | (obtain rfl : sg = ⟨#[]⟩ := hsg.symm)
        rw [HL.out, ← HX.out]
        go_enter Tryz.func26, Tryz.ntmps26
        go_wp2_with fail
        refine (HS.out _).mono ?_
        rintro r w1 ⟨rfl, hb⟩
        have B1 := Lib.hid hb
        clear hb
        go_wp2_with fail
        refine (HN.out _).mono ?_
        rintro r w2 ⟨rfl, hb⟩
        have B2 := Lib.hid (B1.out.trans (hb.mono B1.out.size))
        clear hb
        go_wp2_with fail
        exact bodyPost_ret (by simp [results, Tryz.results26, go_sem]) rfl ⟨rfl, B2.out⟩
  · clear HN HI hI6
    by_cases c2 : p ≤ 0
    · obtain ⟨n, hn⟩ : ∃ n : Nat, -p = (n : Int) := ⟨(-p).toNat, by omega⟩
      have HL : Hid (sg ++ loT D p = sg ++ ⟨#[48, 46]⟩ ++ zk n ++ D) := Lib.hid (by unfold loT; rw [if_neg c1, if_pos c2, show (-p).toNat = n by omega, ← ByteArray.append_assoc, ← ByteArray.append_assoc])
      have PZ := Lib.hid (fun W => HZ.out n W (by omega))
      have hz := zk_size n
      obtain ⟨Z, hZ⟩ : ∃ Z, zk n = Z := ⟨_, rfl⟩
      rw [hZ] at PZ hz HL
      clear hZ hng
      cases ng
      all_goals
        first | (obtain rfl : sg = ⟨#[45]⟩ := hsg.symm) | (obtain rfl : sg = ⟨#[]⟩ := hsg.symm)
        rw [HL.out]
        go_enter Tryz.func26, Tryz.ntmps26
        go_wp2_with fail
        refine (HS.out _).mono ?_
        rintro r w1 ⟨rfl, hb⟩
        have B1 := Lib.hid hb
        clear hb
        go_wp2_with fail
        refine (PZ.out _).mono ?_
        rintro r w2 ⟨rfl, hb⟩
        have B2 := Lib.hid (B1.out.trans (hb.mono B1.out.size))
        clear hb
        go_wp2_with fail
        exact bodyPost_ret (by simp [results, Tryz.results26, go_sem]) rfl ⟨rfl, B2.out⟩
    · by_cases c3 : (D.size : Int) ≤ p
      · obtain ⟨n, hn⟩ : ∃ n : Nat, p - (D.size : Int) = (n : Int) := ⟨(p - (D.size : Int)).toNat, by omega⟩
        have HL : Hid (sg ++ loT D p = sg ++ D ++ zk n ++ ⟨#[46, 48]⟩) := Lib.hid (by unfold loT; rw [if_neg c1, if_neg c2, if_pos c3, show (p - (D.size : Int)).toNat = n by omega, ← ByteArray.append_assoc, ← ByteArray.append_assoc])
        have PZ := Lib.hid (fun W => HZ.out n W (by omega))
        have hz := zk_size n
        obtain ⟨Z, hZ⟩ : ∃ Z, zk n = Z := ⟨_, rfl⟩
        rw [hZ] at PZ hz HL
        clear hZ hng
        cases ng
        all_goals
          first | (obtain rfl : sg = ⟨#[45]⟩ := hsg.symm) | (obtain rfl : sg = ⟨#[]⟩ := hsg.symm)
          rw [HL.out]
          go_enter Tryz.func26, Tryz.ntmps26
          go_wp2_with fail
          refine (HS.out _).mono ?_
          rintro r w1 ⟨rfl, hb⟩
          have B1 := Lib.hid hb
          clear hb
          go_wp2_with fail
          refine (PZ.out _).mono ?_
          rintro r w2 ⟨rfl, hb⟩
          have B2 := Lib.hid (B1.out.trans (hb.mono B1.out.size))
          clear hb
          go_wp2_with fail
          exact bodyPost_ret (by simp [results, Tryz.results26, go_sem]) rfl ⟨rfl, B2.out⟩
      · have HL : Hid (sg ++ loT D p = sg ++ cutT D 0 p.toNat ++ ⟨#[46]⟩ ++ cutT D p.toNat D.size) := Lib.hid (by unfold loT; rw [if_neg c1, if_neg c2, if_neg c3, ← ByteArray.append_assoc, ← ByteArray.append_assoc])
        obtain ⟨D1, hD1⟩ : ∃ t, cutT D 0 p.toNat = t := ⟨_, rfl⟩
        obtain ⟨D2, hD2⟩ : ∃ t, cutT D p.toNat D.size = t := ⟨_, rfl⟩
        have hs1 : D1.size = p.toNat := by rw [← hD1, cutT_size (by omega)]; omega
        have hs2 : D2.size = D.size - p.toNat := by rw [← hD2, cutT_size (by omega)]
        have sl1 : ∀ W, (Instr.slice 9 (.string D) none (some (.int .i64 p)) none).run Tryz.prog W = .ok (.string D1) W := fun W => by
          rw [run_slice_string_h (w := W) (s := D) (ht := Tryz.underlying9) (h0 := by omega) (h2 := by omega), ← hD1]
          rfl
        have sl2 : ∀ W, (Instr.slice 9 (.string D) (some (.int .i64 p)) none none).run Tryz.prog W = .ok (.string D2) W := fun W => by
          rw [run_slice_string_l (w := W) (s := D) (ht := Tryz.underlying9) (h0 := by omega) (h1 := by omega), ← hD2]
          rfl
        rw [hD1, hD2] at HL
        clear hD1 hD2 hng
        cases ng
        all_goals
          first | (obtain rfl : sg = ⟨#[45]⟩ := hsg.symm) | (obtain rfl : sg = ⟨#[]⟩ := hsg.symm)
          rw [HL.out]
          go_enter Tryz.func26, Tryz.ntmps26
          go_wp2_with fail
          refine (HS.out _).mono ?_
          rintro r w1 ⟨rfl, hb⟩
          have B1 := Lib.hid hb
          clear hb
          go_wp2_with fail
          go_quiet (fail)
          go_wp2_with fail
          exact bodyPost_ret (by simp [results, Tryz.results26, go_sem]) rfl ⟨rfl, by first | exact B1.out | exact drew_below B1.out _⟩
end Go.Proofs.YtljbnnpmnoejeaaGreatDoor.nn
