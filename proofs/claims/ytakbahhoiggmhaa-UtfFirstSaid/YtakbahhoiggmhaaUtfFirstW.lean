/- The walk of UtfFirst. -/
import Derived.Test.YtakbahhoiggmhaaGoes
import Derived.Test.YtakbahhoiggmhaaPoint
import Derived.Test.YtakbahhoiggmhaaRefPoint
namespace Go.Proofs.Ytakbahhoiggmhaa.nn
open Go.RowKit

set_option maxRecDepth 100000 in
set_option maxHeartbeats 1000000 in
theorem first_walk (s more : ByteArray) (w : World) (n e k f : Nat) (hs : s.size ≤ 140737488351232) (hm : more.size ≤ 140737488351232) (hn : n ≤ s.size)
    (h1 : Hid (∀ w, Calls Try.prog 10 #[.string s] w fun r w' => r = .returned (.tuple #[.int .i64 (n : Int), .int .i64 (e : Int)]) ∧ Below w.heap.size w w'))
    (he : e = 0 ∧ n = s.size ∨ e = 3 ∧ n = s.size ∨ e = 4 ∧ n < s.size)
    (h2 : Hid (∀ w, Calls Try.prog 23 #[.string (s.extract 0 n)] w fun r w' => r = .returned (.bool true) ∧ Below w.heap.size w w'))
    (h3 : Hid (e = 3 → ∀ w, Calls Try.prog 23 #[.string s] w fun r w' => r = .returned (.bool true) ∧ Below w.heap.size w w'))
    (h4 : Hid (e = 4 → ∀ w, Calls Try.prog 10 #[.string (s.extract 0 (n + 1) ++ more)] w fun r w' => r = .returned (.tuple #[.int .i64 (n : Int), .int .i64 4]) ∧ Below w.heap.size w w')) :
    Calls Try.prog 7 #[.string s, .string more] w fun r w' => r = .returned (.bool true) ∧ Below w.heap.size w w' := by
  rcases he with ⟨rfl, rfl⟩ | ⟨rfl, rfl⟩ | ⟨rfl, hlt⟩
  · go_enter Try.func7, Try.ntmps7
    go_wp2_with fail
    refine (h1.out _).mono ?_
    rintro r w1 ⟨rfl, b1⟩
    go_wp2_with fail
    refine (awake_any _).mono ?_
    rintro r w2 ⟨rfl, b2⟩
    go_wp2_with fail
    go_ret
    exact ⟨rfl, b1.trans (b2.mono b1.size)⟩
  · have H3 := Lib.hid (h3.out rfl)
    go_enter Try.func7, Try.ntmps7
    go_wp2_with fail
    refine (h1.out _).mono ?_
    rintro r w1 ⟨rfl, b1⟩
    go_wp2_with fail
    refine (H3.out _).mono ?_
    rintro r w2 ⟨rfl, b2⟩
    have c2 := b1.trans (b2.mono b1.size)
    go_wp2_with fail
    refine (awake_any _).mono ?_
    rintro r w3 ⟨rfl, b3⟩
    go_wp2_with fail
    go_ret
    exact ⟨rfl, c2.trans (b3.mono c2.size)⟩
  · have H4 := Lib.hid (h4.out rfl)
    have q1 : ((n : Int) == (s.size : Int)) = false := by simp; omega
    go_enter Try.func7, Try.ntmps7
    go_wp2_with fail
    refine (h1.out _).mono ?_
    rintro r w1 ⟨rfl, b1⟩
    go_wp2_with fail
    refine (h2.out _).mono ?_
    rintro r w2 ⟨rfl, b2⟩
    have c2 := b1.trans (b2.mono b1.size)
    go_wp2_with fail
    refine (H4.out _).mono ?_
    rintro r w3 ⟨rfl, b3⟩
    go_wp2_with fail
    go_ret
    exact ⟨rfl, c2.trans (b3.mono c2.size)⟩

theorem bt_extract {s : ByteArray} {m i : Nat} (hm : m ≤ s.size) (h : i < m) : bt (s.extract 0 m) i = bt s i := by
  have h1 : i < s.size := by omega
  have h2 : i < (s.extract 0 m).size := by rw [ByteArray.size_extract]; omega
  rw [bt_at h1, bt_at h2, ByteArray.getElem_extract]
  simp

theorem first_any (s : ByteArray) (hs : s.size ≤ 140737488351232) (more : ByteArray) (hmore : more.size ≤ 140737488351232) (w : World) :
    Calls Try.prog 7 #[.string s, .string more] w fun r w' => r = .returned (.bool true) ∧ Below w.heap.size w w' := by
  have hm : s.size ≤ maxLen := by unfold maxLen; omega
  have hle : ckA (bt s) s.size ≤ s.size := sp_le
  have hal : al (bt s) t0 (ckA (bt s) s.size) = true := al_sp
  have hsz : (s.extract 0 (ckA (bt s) s.size)).size = ckA (bt s) s.size := by rw [ByteArray.size_extract]; omega
  have hg : al (bt (s.extract 0 (ckA (bt s) s.size))) t0 (s.extract 0 (ckA (bt s) s.size)).size = true := by
    rw [hsz, al_congr (fun i hi => bt_extract hle hi)]
    exact hal
  have hcase : ckE (bt s) s.size = 0 ∧ ckA (bt s) s.size = s.size ∨ ckE (bt s) s.size = 3 ∧ ckA (bt s) s.size = s.size ∨ ckE (bt s) s.size = 4 ∧ ckA (bt s) s.size < s.size := by
    by_cases ha : al (bt s) t0 s.size = true
    · have h1 : ckA (bt s) s.size = s.size := sp_all ha
      unfold ckE
      rw [if_pos ha]
      by_cases hc : (tk (bt s) t0 s.size).c = 0
      · rw [if_pos hc]; exact .inl ⟨rfl, h1⟩
      · rw [if_neg hc]; exact .inr (.inl ⟨rfl, h1⟩)
    · unfold ckE
      rw [if_neg ha]
      exact .inr (.inr ⟨rfl, (sp_lt (by simpa using ha)).1⟩)
  refine first_walk s more w _ _ 0 0 hs hmore hle (Lib.hid fun w => check_any s w hm) hcase (Lib.hid fun w => goes_any _ w (by omega) hg)
    (Lib.hid fun h3 w => goes_any s w hs ?_) (Lib.hid fun h4 w => ?_)
  · by_cases ha : al (bt s) t0 s.size = true
    · exact ha
    · exfalso
      unfold ckE at h3
      rw [if_neg ha] at h3
      cases h3
  · have hlt : ckA (bt s) s.size < s.size := by omega
    have hd : al (bt s) t0 (ckA (bt s) s.size + 1) = false := by
      by_cases ha : al (bt s) t0 s.size = true
      · have : ckA (bt s) s.size = s.size := sp_all ha
        omega
      · exact (sp_lt (by simpa using ha)).2
    generalize ckA (bt s) s.size = p at *
    have hsz2 : (s.extract 0 (p + 1)).size = p + 1 := by rw [ByteArray.size_extract]; omega
    have hf : ∀ i, i < p + 1 → bt (s.extract 0 (p + 1) ++ more) i = bt s i := fun i hi =>
      (bt_app_left (by omega)).trans (bt_extract (by omega) hi)
    have hc := check_any (s.extract 0 (p + 1) ++ more) w (by rw [ByteArray.size_append, hsz2]; unfold maxLen; omega)
    have h5 : al (bt (s.extract 0 (p + 1) ++ more)) t0 p = true := by rw [al_congr (fun i hi => hf i (by omega))]; exact hal
    have h6 : al (bt (s.extract 0 (p + 1) ++ more)) t0 (p + 1) = false := by rw [al_congr hf]; exact hd
    have h7 : p + 1 ≤ (s.extract 0 (p + 1) ++ more).size := by rw [ByteArray.size_append, hsz2]; omega
    have eA : ckA (bt (s.extract 0 (p + 1) ++ more)) (s.extract 0 (p + 1) ++ more).size = p := sp_stop h5 h6 (by omega)
    have eE : ckE (bt (s.extract 0 (p + 1) ++ more)) (s.extract 0 (p + 1) ++ more).size = 4 := by
      unfold ckE
      rw [if_neg (by rw [dead h6 h7]; decide)]
    rw [eA, eE] at hc
    exact hc
end Go.Proofs.Ytakbahhoiggmhaa.nn
