/- Joined texts, what is wanted of them: CbE4, CbE5, CborFloatsW. -/
import Derived.Deep.DeepCutAuto
import Derived.Deep.RegionWith
import Derived.Test.YtpcladdipgchbaaGreatDoorProg
import Derived.WalkKit
import Derived.Lib.Hide
import Derived.WalkSpells
import Derived.Deep.QuietTactic
import Derived.BigQuiet
import Derived.Deep.RegionHeld3
import Derived.Laws.BitsAllLaws
import Derived.Test.YtpcladdipgchbaaGreatDoorShelf
import Derived.IntWalk
import Derived.Deep.CutBlock
import Derived.StillTailTactics
import Derived.Test.YtpcladdipgchbaaGreatDoorSf
import Derived.Test.YtpcladdipgchbaaGreatDoorSe
import Derived.Test.YtpcladdipgchbaaGreatDoorSp
import Derived.Test.YtpcladdipgchbaaGreatDoorSb
import Derived.Test.YtpcladdipgchbaaGreatDoorSd
import Derived.Test.YtpcladdipgchbaaGreatDoorSt
import Derived.Test.YtpcladdipgchbaaGreatDoorSv
import Derived.Test.YtpcladdipgchbaaGreatDoorSg
import Derived.Test.YtpcladdipgchbaaGreatDoorSo
import Derived.Test.YtpcladdipgchbaaGreatDoorSr
import Derived.Test.YtpcladdipgchbaaGreatDoorSa
import Derived.Test.YtpcladdipgchbaaGreatDoorSq
import Derived.Test.YtpcladdipgchbaaGreatDoorSu
import Derived.Test.YtpcladdipgchbaaGreatDoorSc
import Derived.Test.YtpcladdipgchbaaGreatDoorSs
namespace Go.Proofs.YtpcladdipgchbaaGreatDoor.nn
open Go.RowKit

/-- the bytes and the error that Encode answers -/
def ecL (o : Bool) (t : VT) : List UInt8 := if chk t = 0 ∧ ext t = false then itB o t else []
def enE (t : VT) : Nat := if chk t = 0 then (if ext t = true then 10 else 0) else chk t
def EnAns (o : Bool) (t : VT) (w : World) (e : Ending) (w' : World) : Prop :=
  ∃ A c, e = .returned (.tuple #[.slice A (ecL o t).length c, .int .i64 (enE t : Int)]) ∧ (ecL o t).length ≤ c ∧ c ≤ maxLen ∧ Rd w' .u8 A (ecL o t).length (gL (ecL o t)) ∧ Below w.heap.size w w'
set_option maxRecDepth 100000 in
set_option maxHeartbeats 1000000 in
theorem enc1_any (w0 : World) (g k : Nat) (o : Bool) (t : VT) (C : Value) (l : List UInt8) (W : World) (hI : Its w0 g o t) (hC : Lst w0 C t.l) (hW : Below w0.heap.size w0 W) (h : Wr w0.heap.size g l o W) (hle : l.length + (itB o t).length + 20 ≤ 140737488355328) (hr : W.heap[k]? = some (.cells #[.int .i64 t.k, .bool t.g, .int .u64 (t.n : Int), .string t.s, C] 25 (0, 0))) :
    Calls Tryz.prog 35 #[.pointer (some ⟨g, 0, none⟩), .pointer (some ⟨k, 0, none⟩)] W (ItAns w0.heap.size g (l ++ itB o t) o (ext t) W) := by
  have H := Lib.hid (hI C l W hC hW h hle)
  have c0 : W.cell? ⟨k, 0, none⟩ = some (.int .i64 t.k) := cell_of_row _ _ 0 _ _ _ hr
  have c1 : W.cell? ⟨k, 1, none⟩ = some (.bool t.g) := cell_of_row _ _ 1 _ _ _ hr
  have c2 : W.cell? ⟨k, 2, none⟩ = some (.int .u64 (t.n : Int)) := cell_of_row _ _ 2 _ _ _ hr
  have c3 : W.cell? ⟨k, 3, none⟩ = some (.string t.s) := cell_of_row _ _ 3 _ _ _ hr
  have c4 : W.cell? ⟨k, 4, none⟩ = some C := cell_of_row _ _ 4 _ _ _ hr
  obtain ⟨T, hT⟩ : ∃ T, l ++ itB o t = T := ⟨_, rfl⟩
  obtain ⟨X, hX⟩ : ∃ X, ext t = X := ⟨_, rfl⟩
  rw [hT, hX] at H ⊢
  unfold vv at H
  clear hT hX hI hC hW h hr hle
  go_enter Tryz.func35, Tryz.ntmps35
  go_wp2_with fail
  refine H.out.mono ?_
  rintro e w2 ⟨⟨h2a, h2b⟩, ⟨hx, rfl, h2c⟩ | ⟨hx, rfl⟩⟩
  · have H2 := Lib.hid (And.intro (And.intro h2a h2b) (And.intro hx h2c))
    clear h2a h2b h2c hx
    go_wp2_with fail
    go_end0
    exact ⟨H2.out.1, .inl ⟨H2.out.2.1, rfl, H2.out.2.2⟩⟩
  · have H2 := Lib.hid (And.intro (And.intro h2a h2b) hx)
    clear h2a h2b hx
    go_wp2_with fail
    exact ⟨rfl, H2.out.1, .inr ⟨H2.out.2, rfl⟩⟩
/-- what is there when the work of Encode is begun: the value's box, the writer -/
structure Eq0 (w : World) (o : Bool) (t : VT) (C : Value) (g : Nat) (W : World) : Prop where
  b : Below w.heap.size w W
  z : w.heap.size < W.heap.size
  r : W.heap[w.heap.size]? = some (.cells #[.int .i64 t.k, .bool t.g, .int .u64 (t.n : Int), .string t.s, C] 25 (0, 0))
  wr : Wr w.heap.size g [] o W
/-- what the work leaves -/
def EqQ (w : World) (o : Bool) (t : VT) (_ : Value) (g : Nat) (W4 W : World) : Prop := ext t = false ∧ Wr w.heap.size g (itB o t) o W ∧ Below w.heap.size w W ∧ ctK W4 W
def EqQ' (w : World) (t : VT) (W4 : World) (p n : Int) (W : World) : Prop := (p = 0 ∧ n = 10 ∧ ext t = true) ∧ Below w.heap.size w W ∧ ctK W4 W
theorem ct_enc (w : World) (o : Bool) (t : VT) (C : Value) (g : Nat) (W : World) (hg : Laid w) (hI : Its w g o t) (hC : Lst w C t.l) (h : Eq0 w o t C g W) (hle : (itB o t).length + 20 ≤ 140737488355328) :
    Calls Tryz.prog 34 #[.func (.func 35) #[] #[.pointer (some ⟨g, 0, none⟩), .pointer (some ⟨w.heap.size, 0, none⟩)]] W (CtAns (EqQ w o t C g W) (EqQ' w t W) W) := by
  have hb2 : Below W.heap.size W (ctW W) := ((Below.refl _ _).alloc (Nat.le_refl _) _).alloc (by simp) _
  have hbw : Below w.heap.size w (ctW W) := h.b.trans (hb2.mono (Nat.le_of_lt h.z))
  have hgl := h.wr.lt
  have hk0 : (ctW W).heap[W.heap.size]? = some (.cells #[.int .i64 0] 3 (0, 0)) := by
    unfold ctW
    rw [Below.heap_alloc _ _ _ (by simp)]
    exact heap_alloc_last _ _
  have hk1 : (ctW W).heap[W.heap.size + 1]? = some (.cells #[.int .i64 0] 29 (0, 0)) := by
    unfold ctW
    have := heap_alloc_last (W.alloc (.cells #[.int .i64 0] 3)) (.cells #[.int .i64 0] 29)
    simpa using this
  have hK : ∀ W', Below w.heap.size (ctW W) W' → Kw g (ctW W) W' → Below w.heap.size w W' ∧ ctK W W' := fun W' h1 h2 => by
    have h3 := hbw.trans h1
    exact ⟨h3, h2 _ _ _ (by omega) (by decide) hk0, h2 _ _ _ (by omega) (by decide) hk1, hg.below h3⟩
  refine caught_enc _ _ _ _ W ((enc1_any w g w.heap.size o t C [] (ctW W) hI hC hbw (h.wr.below hb2) (by simpa using hle) ((hb2.block _ h.z).trans h.r)).mono fun e W' ha => ?_) (fun W' hq => hq.2.2.2) (fun p n W' hq => hq.2.2)
  obtain ⟨⟨h1, h2⟩, ha⟩ := ha
  have h3 := hK W' h1 h2
  rcases ha with ⟨hx, he, hwr⟩ | ⟨hx, he⟩
  · exact .inl ⟨he, hx, hwr, h3⟩
  · exact .inr ⟨0, 10, he, ⟨rfl, rfl, hx⟩, h3⟩
end Go.Proofs.YtpcladdipgchbaaGreatDoor.nn
namespace Go.Proofs.YtpcladdipgchbaaGreatDoor.nn
open Go.RowKit

theorem chk_parts {t : VT} (h : chk t = 0) : dep t ≤ 64 ∧ cnt t ≤ 65536 ∧ rgt t = true := by
  unfold chk at h
  split at h
  · cases h
  · rename_i h1
    split at h
    · exact ⟨by omega, by omega, ‹_›⟩
    · cases h
theorem own_same6 {w w' : World} {base n size : Nat} {e : TypeId} {v : Value} {xs : List Value} (h : w.ownsRow base e size v n xs) (hb : ∀ b, v.ownBlock = some b → w'.heap[b]? = w.heap[b]?) : w'.ownsRow base e size v n xs := by
  refine ⟨h.1, ?_⟩
  rcases h.2 with h5 | ⟨g, cap, cur, rfl, hb', hg, h6⟩
  · exact .inl h5
  · exact .inr ⟨g, cap, cur, rfl, hb', (hb g rfl).trans hg, h6⟩
/-- the world's blocks behind caught, but for its own two -/
theorem ct_below {w W W1 w1 : World} {p n : Int} {B : Nat} (hb : Below B w w1) (hB : B ≤ W.heap.size) (hw : W1 = (w1.setCell ⟨W.heap.size, 0, none⟩ (.int .i64 p)).setCell ⟨W.heap.size + 1, 0, none⟩ (.int .i64 n)) : Below B w W1 := by
  subst hw
  exact (hb.setCell (p := ⟨W.heap.size, 0, none⟩) hB _).setCell (p := ⟨W.heap.size + 1, 0, none⟩) (by show B ≤ W.heap.size + 1; omega) _
theorem ct_block {W w1 : World} {p n : Int} {b : Nat} (h1 : b ≠ W.heap.size) (h2 : b ≠ W.heap.size + 1) : ((w1.setCell ⟨W.heap.size, 0, none⟩ (.int .i64 p)).setCell ⟨W.heap.size + 1, 0, none⟩ (.int .i64 n)).heap[b]? = w1.heap[b]? := by
  rw [Below.heap_setCell _ _ _ _ h2, Below.heap_setCell _ _ _ _ h1]
set_option maxRecDepth 100000 in
set_option maxHeartbeats 4000000 in
theorem encode_any (o : Bool) (x : Int) (y : Bool) (t : VT) (C : Value) (w : World) (hN : cnt t ≤ 1099511627776) (hS : smx t ≤ maxLen) (hC : Lst w C t.l) (hwf : wfT t) (hg : Laid w) (hle : (itB o t).length + 20 ≤ 140737488355328) :
    Calls Tryz.prog 14 #[vv t C, .agg #[.bool o, .int .i64 x, .bool y]] w (EnAns o t w) := by
  have hmf : ∀ (fn : Fn) (first cap : Array Value) (w : World), (Instr.makeFunc fn first cap).run Tryz.prog w = .ok (.func fn first cap) w := fun _ _ _ _ => rfl
  obtain ⟨W1, hW1⟩ : ∃ W1, w.alloc (.cells #[.int .i64 t.k, .bool t.g, .int .u64 (t.n : Int), .string t.s, C] 25) = W1 := ⟨_, rfl⟩
  obtain ⟨W2, hW2⟩ : ∃ W2, W1.alloc (.cells #[.bool o, .int .i64 x, .bool y] 27) = W2 := ⟨_, rfl⟩
  have hb1 : Below w.heap.size w W1 := by rw [← hW1]; exact (Below.refl _ _).alloc (Nat.le_refl _) _
  have hz1 : W1.heap.size = w.heap.size + 1 := by rw [← hW1]; simp
  have hr1 : W1.heap[w.heap.size]? = some (.cells #[.int .i64 t.k, .bool t.g, .int .u64 (t.n : Int), .string t.s, C] 25 (0, 0)) := by rw [← hW1]; exact heap_alloc_last _ _
  have hb2 : Below W1.heap.size W1 W2 := by rw [← hW2]; exact (Below.refl _ _).alloc (Nat.le_refl _) _
  have ho2 : W2.heap[W1.heap.size]? = some (.cells #[.bool o, .int .i64 x, .bool y] 27 (0, 0)) := by rw [← hW2]; exact heap_alloc_last _ _
  have hbw2 : Below w.heap.size w W2 := hb1.trans (hb2.mono hb1.size)
  have hr2 : W2.heap[w.heap.size]? = some (.cells #[.int .i64 t.k, .bool t.g, .int .u64 (t.n : Int), .string t.s, C] 25 (0, 0)) := (hb2.block _ (by omega)).trans hr1
  have HCK := Lib.hid (vcheck_any t C W2 hN hS (hC.keep hbw2 (Nat.le_refl _)) hwf)
  have H3 : Hid (∀ w3, Below W2.heap.size W2 w3 → Below w.heap.size w w3 ∧ w3.heap[w.heap.size]? = some (.cells #[.int .i64 t.k, .bool t.g, .int .u64 (t.n : Int), .string t.s, C] 25 (0, 0)) ∧ w3.cell? ⟨w.heap.size + 1, 0, none⟩ = some (.bool o) ∧ w.heap.size + 1 < w3.heap.size) := Lib.hid fun w3 hb3 => by
    have hl2 := lt_of_block ho2
    have := hb3.size
    refine ⟨hbw2.trans (hb3.mono hbw2.size), (hb3.block _ (by omega)).trans hr2, ?_, by omega⟩
    have h5 := (hb3.block _ hl2).trans ho2
    rw [hz1] at h5
    exact cell_of_row _ _ 0 _ _ _ h5
  have HE : Hid (chk t = 0 → ∀ (w3 W4 : World), Below W2.heap.size W2 w3 → W4.heap = (w3.alloc (.cells #[.slice none 0 0, .bool o] 58)).heap → W4.os = w3.os → W4.tape = w3.tape → W4.output = w3.output →
      Calls Tryz.prog 34 #[.func (.func 35) #[] #[.pointer (some ⟨w3.heap.size, 0, none⟩), .pointer (some ⟨w.heap.size, 0, none⟩)]] W4 (CtAns (EqQ w o t C w3.heap.size W4) (EqQ' w t W4) W4)) := Lib.hid fun hc w3 W4 hb3 hh h1 h2 h3 => by
    obtain ⟨q1, q2, _, q4⟩ := H3.out w3 hb3
    have hz4 : W4.heap.size = w3.heap.size + 1 := by rw [hh]; simp
    have hbb : Below w3.heap.size w3 W4 := ⟨h1, h2, h3, by omega, fun k hk => by rw [hh]; exact Below.heap_alloc _ _ _ hk⟩
    obtain ⟨_, hc2, hr⟩ := chk_parts hc
    refine ct_enc w o t C w3.heap.size W4 hg (its_any w w3.heap.size o (cnt t) t (Nat.le_refl _) hN hr hwf) hC ⟨q1.trans (hbb.mono q1.size), by omega, (hbb.block _ (by omega)).trans q2, ⟨.slice none 0 0, q1.size, ?_, World.ownsRow_nil _ _ _ _⟩⟩ hle
    rw [hh]
    exact heap_alloc_last _ _
  have HF : Hid (∀ (g : Nat) (W4 : World) (w5 : World) (e : Ending), g + 1 = W4.heap.size → w.heap.size + 1 < g → CtAns (EqQ w o t C (g) W4) (EqQ' w t W4) W4 e w5 → Below w.heap.size w w5 ∧ ((ext t = true ∧ e = .returned (.tuple #[.int .i64 0, .int .i64 10])) ∨ (ext t = false ∧ e = .returned (.tuple #[.int .i64 0, .int .i64 0]) ∧ ∃ A c, w5.cell? ⟨g, 0, none⟩ = some (.slice A (itB o t).length c) ∧ (itB o t).length ≤ c ∧ c ≤ maxLen ∧ Rd w5 .u8 A (itB o t).length (gL (itB o t))))) := Lib.hid fun g W4 w5 e hg4 hlt h => by
    obtain ⟨p, n, W, w1, he, hh, hw⟩ := h
    rcases hh with ⟨hq, rfl, rfl, rfl⟩ | ⟨hq, hb⟩
    · refine ⟨ct_below hq.2.2.1 (by omega) hw, .inr ⟨hq.1, he, ?_⟩⟩
      obtain ⟨v, hv⟩ := hq.2.1
      have h6 : w5.heap[g]? = w1.heap[g]? := by rw [hw]; exact ct_block (by omega) (by omega)
      have hc5 : w5.cell? ⟨g, 0, none⟩ = some v := cell_of_row _ _ 0 _ _ _ (h6.trans hv.2.1)
      have hown : w5.ownsRow w.heap.size 5 1 v (itB o t).length (Lib.byteCells (itB o t)) := own_same6 hv.2.2 fun b hb => by
        rw [hw]
        refine ct_block (fun e => ?_) (fun e => ?_)
        · exact Lib.ownBlock_ne hv.2.2 hq.2.2.2.1 (by decide) (by rw [hb, e])
        · exact Lib.ownBlock_ne hv.2.2 hq.2.2.2.2.1 (by decide) (by rw [hb, e])
      obtain ⟨A, c, rfl, h8, h9, h10⟩ := rd_list rfl hown
      exact ⟨A, c, hc5, h8, h9, h10⟩
    · obtain ⟨⟨rfl, rfl, hx⟩, hb2, _⟩ := hq
      exact ⟨ct_below (hb2.trans (hb.mono hb2.size)) (by omega) hw, .inl ⟨hx, he⟩⟩
  have c0 : W2.cell? ⟨w.heap.size, 0, none⟩ = some (.int .i64 t.k) := cell_of_row _ _ 0 _ _ _ hr2
  have c1 : W2.cell? ⟨w.heap.size, 1, none⟩ = some (.bool t.g) := cell_of_row _ _ 1 _ _ _ hr2
  have c2 : W2.cell? ⟨w.heap.size, 2, none⟩ = some (.int .u64 (t.n : Int)) := cell_of_row _ _ 2 _ _ _ hr2
  have c3 : W2.cell? ⟨w.heap.size, 3, none⟩ = some (.string t.s) := cell_of_row _ _ 3 _ _ _ hr2
  have c4 : W2.cell? ⟨w.heap.size, 4, none⟩ = some C := cell_of_row _ _ 4 _ _ _ hr2
  have HEN : Hid (ecL o t = (if chk t = 0 ∧ ext t = false then itB o t else []) ∧ enE t = (if chk t = 0 then (if ext t = true then 10 else 0) else chk t)) := Lib.hid ⟨rfl, rfl⟩
  unfold EnAns
  obtain ⟨L, hL⟩ : ∃ L, ecL o t = L := ⟨_, rfl⟩
  obtain ⟨E, hE⟩ : ∃ E, enE t = E := ⟨_, rfl⟩
  obtain ⟨X, hX⟩ : ∃ X, ext t = X := ⟨_, rfl⟩
  obtain ⟨I, hI⟩ : ∃ I, itB o t = I := ⟨_, rfl⟩
  obtain ⟨ck, hck⟩ : ∃ ck, chk t = ck := ⟨_, rfl⟩
  rw [hL, hE, hX, hI, hck] at HEN
  rw [hX, hI] at HF
  rw [hck] at HE HCK
  rw [hL, hE]
  unfold vv at HCK ⊢
  clear hL hE hX hI hck hN hS hC hwf hg hle hb1 hr1 hb2 ho2 hbw2 hr2
  go_enter Tryz.func14, Tryz.ntmps14
  go_upto_region 1 with fail
  first | rw [hW1] | skip
  first | rw [hW2] | skip
  clear hW1 hW2
  go_wp2_with fail
  refine HCK.out.mono ?_
  rintro e w3 ⟨rfl, hb3⟩
  obtain ⟨q1, _, q3, q4⟩ := H3.out w3 hb3
  by_cases hc : ck = 0
  · subst hc
    have HE2 := Lib.hid (HE.out rfl)
    have HB3 := Lib.hid hb3
    have q3' : w3.drew.cell? ⟨w.heap.size + 1, 0, none⟩ = some (.bool o) := q3
    clear HE HCK c0 c1 c2 c3 c4 hb3 q1
    go_wp2_with fail
    refine (HE2.out w3 _ HB3.out rfl rfl rfl rfl).mono ?_
    rintro e w5 hz
    obtain ⟨hb5, hans⟩ := HF.out _ _ _ _ (by simp) q4 hz
    have HB5 := Lib.hid hb5
    rcases hans with ⟨hx, rfl⟩ | ⟨hx, rfl, A, c, d0, hg⟩
    · have HL : Hid (L = [] ∧ E = 10) := Lib.hid (by have h7 := HEN.out; simp [hx] at h7; exact h7)
      clear hz hb5 hx q3 q3' q4 HEN
      go_wp2_with fail
      refine bodyPost_ret (v := .tuple #[.slice none 0 0, .int .i64 10]) (by simp [results, Tryz.results14, go_sem]) rfl ⟨none, 0, ?_, ?_, ?_, ?_, HB5.out⟩
      · rw [HL.out.1, HL.out.2]; rfl
      · rw [HL.out.1]; exact Nat.le_refl _
      · unfold maxLen; omega
      · rw [HL.out.1]; exact Rd.none_
    · have HL : Hid (L = I ∧ E = 0) := Lib.hid (by have h7 := HEN.out; simp [hx] at h7; exact h7)
      have HG := Lib.hid hg
      clear hz hb5 hx q3 q3' q4 HEN hg
      go_wp2_with fail
      refine bodyPost_ret (v := .tuple #[.slice A I.length c, .int .i64 0]) (by simp [results, Tryz.results14, go_sem]) rfl ⟨A, c, ?_, ?_, HG.out.2.1, ?_, HB5.out⟩
      · rw [HL.out.1, HL.out.2]; rfl
      · rw [HL.out.1]; exact HG.out.1
      · rw [HL.out.1]; exact HG.out.2.2
  · have hne : ((ck : Int) != 0) = true := by simp; omega
    have HQ := Lib.hid q1
    have HL : Hid (L = [] ∧ E = ck) := Lib.hid ⟨by rw [HEN.out.1, if_neg (by omega)], by rw [HEN.out.2, if_neg hc]⟩
    clear HE HCK c0 c1 c2 c3 c4 hb3 q1 q3 q4 hc
    go_wp2_with fail
    refine bodyPost_ret (v := .tuple #[.slice none 0 0, .int .i64 (ck : Int)]) (by simp [results, Tryz.results14, go_sem]) rfl ⟨none, 0, ?_, ?_, ?_, ?_, HQ.out⟩
    · rw [HL.out.1, HL.out.2]; rfl
    · rw [HL.out.1]; exact Nat.le_refl _
    · unfold maxLen; omega
    · rw [HL.out.1]; exact Rd.none_
end Go.Proofs.YtpcladdipgchbaaGreatDoor.nn
namespace Go.Proofs.YtpcladdipgchbaaGreatDoor.nn
open Go.RowKit

set_option maxRecDepth 100000 in
set_option maxHeartbeats 1000000 in
theorem awake11 (w : World) (hg : Laid w) : Calls Tryz.prog 16 #[] w fun e w' => e = .returned (.bool true) ∧ Below w.heap.size w w' := by
  have h0 : itB false (.mk 0 false 0 ⟨#[]⟩ []) = [246] := by decide +kernel
  have hC := encode_any false 0 false (.mk 0 false 0 ⟨#[]⟩ []) (.slice none 0 0) w (by decide) (by decide) .nil_ ⟨by decide, by decide, by decide, trivial⟩ hg (by rw [h0]; decide)
  unfold EnAns at hC
  have h1 : ecL false (.mk 0 false 0 ⟨#[]⟩ []) = [246] := by decide +kernel
  have h2 : enE (.mk 0 false 0 ⟨#[]⟩ []) = 0 := by decide +kernel
  rw [h1, h2] at hC
  have HC : Hid (Calls Tryz.prog 14 #[.agg #[.int .i64 0, .bool false, .int .u64 0, .string ⟨#[]⟩, .slice none 0 0], .agg #[.bool false, .int .i64 0, .bool false]] w fun e w' => ∃ (b off : Nat) (c : Nat), e = .returned (.tuple #[.slice (some ⟨b, off, none⟩) 1 c, .int .i64 0]) ∧ w'.cell? ⟨b, off, none⟩ = some (.int .u8 246) ∧ Below w.heap.size w w') := Lib.hid (hC.mono fun e w' ⟨A, c, he, _, _, hr, hb⟩ => by
    obtain ⟨b, off, rfl, _, hc⟩ := hr (by decide)
    exact ⟨b, off, c, he, hc 0 (by decide), hb⟩)
  clear hC h1 h2 hg
  go_enter Tryz.func16, Tryz.ntmps16
  go_wp2_with fail
  refine HC.out.mono ?_
  rintro e w' ⟨b, off, c, rfl, q0, hb⟩
  have HB := Lib.hid hb
  clear hb
  go_wp2_with fail
  go_ret
  exact ⟨rfl, HB.out⟩
end Go.Proofs.YtpcladdipgchbaaGreatDoor.nn
