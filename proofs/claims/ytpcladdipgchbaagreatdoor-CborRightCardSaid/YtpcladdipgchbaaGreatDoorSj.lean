/- Joined texts, what is wanted of them: DcC, DcD, DcE, DcF, DcG, DcH, DcS. -/
import Derived.Test.YtpcladdipgchbaaGreatDoorProg
import Derived.WalkKit
import Derived.Lib.Hide
import Derived.WalkSpells
import Derived.Deep.QuietTactic
import Derived.BigQuiet
import Derived.Deep.RegionHeld3
import Derived.Laws.BitsAllLaws
import Derived.Test.YtpcladdipgchbaaGreatDoorShelf
import Derived.Deep.RegionWith
import Derived.IntWalk
import Derived.Deep.CutBlock
import Derived.StillTailTactics
import Derived.Test.YtpcladdipgchbaaGreatDoorSi
import Derived.Test.YtpcladdipgchbaaGreatDoorSd
import Derived.Test.YtpcladdipgchbaaGreatDoorSa
import Derived.Test.YtpcladdipgchbaaGreatDoorSh
import Derived.Test.YtpcladdipgchbaaGreatDoorSc
import Derived.Test.YtpcladdipgchbaaGreatDoorSo
import Derived.Test.YtpcladdipgchbaaGreatDoorSg
namespace Go.Proofs.YtpcladdipgchbaaGreatDoor.nn

/-- bytes with their head -/
def byi (size : Nat) : Prs ByteArray := hdr.bind fun s => str size s
theorem dt_byi (size : Nat) : Dt (byi size) := dt_hdr.bind fun _ => dt_str _ _
section
variable {α : Type} {f g : Nat → Nat} {m n i k q e : Nat}
theorem byi_lt {size : Nat} {s : ByteArray} (h : byi size f n i = .ok s k) : i < k := by
  obtain ⟨a, j, e1, e2⟩ := bind_to h
  have h1 := hdr_ok e1
  have := (dt_str size a).ok h1.2.2.2.2.2.2.2.2.1 e2
  omega
/-- a reader that reads bytes where they stand -/
structure Und (size : Nat) (T : Prs α) : Prop where
  dt : Dt T
  ex : Ex T
  lt : ∀ {f n i a k}, i ≤ n → T f n i = .ok a k → i < k
  en : ∀ {f n}, T f n n = .no n 3
  no : ∀ {f n i q e}, i < n → f i / 32 = 2 → byi size f n i = .no q e → T f n i = .no q e
  yes : ∀ {f n i s k}, i < n → f i / 32 = 2 → byi size f n i = .ok s k → (∃ q, T f n i = .no q 8) ∨ ∃ a, T f n i = .ok a k
/-- bytes that are a great number, or something else -/
def bgo (size : Nat) (B : ByteArray → α) (T : Prs α) : Prs α := fun f n i =>
  if i < n ∧ f i / 32 = 2 then (match byi size f n i with | .ok s k => if big s = true then .ok (B s) k else T f n i | .no _ _ => T f n i) else T f n i
theorem bgo_big {size : Nat} {B : ByteArray → α} {T : Prs α} {s : ByteArray} (h : i < n ∧ f i / 32 = 2) (h1 : byi size f n i = .ok s k) (h2 : big s = true) : bgo size B T f n i = .ok (B s) k := by
  unfold bgo
  rw [if_pos h, h1]
  dsimp only
  rw [if_pos h2]
theorem bgo_not {size : Nat} {B : ByteArray → α} {T : Prs α} (h : i < n → f i / 32 = 2 → ∀ s k, byi size f n i = .ok s k → big s = false) : bgo size B T f n i = T f n i := by
  unfold bgo
  split
  · rename_i h0
    cases h1 : byi size f n i with
    | ok s k =>
      dsimp only
      rw [h h0.1 h0.2 s k h1]
      rfl
    | no q e => rfl
  · rfl
theorem bgo_ways (size : Nat) (B : ByteArray → α) (T : Prs α) (f : Nat → Nat) {n i : Nat} (hi : i ≤ n) :
    (∃ s k, (i < n ∧ f i / 32 = 2) ∧ byi size f n i = .ok s k ∧ big s = true ∧ bgo size B T f n i = .ok (B s) k) ∨
    (bgo size B T f n i = T f n i ∧ ((∃ s k, (i < n ∧ f i / 32 = 2) ∧ byi size f n i = .ok s k ∧ big s = false) ∨ (∃ q e, (i < n ∧ f i / 32 = 2) ∧ byi size f n i = .no q e) ∨ (i < n ∧ f i / 32 ≠ 2) ∨ i = n)) := by
  by_cases h0 : i < n ∧ f i / 32 = 2
  · cases h1 : byi size f n i with
    | ok s k =>
      cases h2 : big s with
      | true => exact .inl ⟨s, k, h0, rfl, h2, bgo_big h0 h1 h2⟩
      | false => exact .inr ⟨bgo_not fun _ _ s' k' h => (by rw [h1] at h; injection h with h3 _; subst h3; exact h2), .inl ⟨s, k, h0, rfl, h2⟩⟩
    | no q e => exact .inr ⟨bgo_not fun _ _ s' k' h => (by rw [h1] at h; cases h), .inr (.inl ⟨q, e, h0, rfl⟩)⟩
  · refine .inr ⟨bgo_not fun a b => absurd ⟨a, b⟩ h0, .inr (.inr ?_)⟩
    by_cases hn : i < n
    · exact .inl ⟨hn, fun h => h0 ⟨hn, h⟩⟩
    · exact .inr (by omega)
theorem bgo_at {size : Nat} {B : ByteArray → α} {T : Prs α} {s : ByteArray} (h1 : byi size f n i = .ok s k) (h2 : big s = false) : bgo size B T f n i = T f n i := bgo_not fun _ _ s' k' h => by rw [h1] at h; injection h with h3 _; subst h3; exact h2
theorem bgo_un {size : Nat} {B : ByteArray → α} {T : Prs α} (h1 : byi size f n i = .no q e) : bgo size B T f n i = T f n i := bgo_not fun _ _ s' k' h => by rw [h1] at h; cases h
theorem bgo_el {size : Nat} {B : ByteArray → α} {T : Prs α} (h1 : f i / 32 ≠ 2) : bgo size B T f n i = T f n i := bgo_not fun _ h => absurd h h1
theorem dt_bgo {size : Nat} (B : ByteArray → α) {T : Prs α} (h : Und size T) : Dt (bgo size B T) := by
  have hb := dt_byi size
  refine ⟨fun {f n i a k} hi h1 => ?_, fun {f n i r} hi h1 => ?_, fun {f n i r} hi h1 => ?_, fun {f n i r} hi h1 => ?_, fun {f n i r e} hi h1 => ?_⟩
  all_goals rcases bgo_ways size B T f hi with ⟨s, j, h0, hy, hs, he⟩ | ⟨he, ⟨s, j, h0, hy, hs⟩ | ⟨q, e', h0, hy⟩ | h0 | h0⟩
  all_goals rw [he] at h1
  -- ok
  · injection h1 with e1 e2
    subst e1 e2
    have hk := byi_lt hy
    obtain ⟨b1, b2, b3⟩ := hb.ok hi hy
    exact ⟨b1, b2, fun g m hg hm => bgo_big ⟨by omega, by rw [hg i hk]; exact h0.2⟩ (b3 g m hg hm) hs⟩
  · rcases h.yes h0.1 h0.2 hy with ⟨q, h3⟩ | ⟨a', h3⟩
    · rw [h3] at h1; cases h1
    · have h4 := h3
      rw [h1] at h4
      injection h4 with _ h4
      subst h4
      obtain ⟨b1, b2, b3⟩ := hb.ok hi hy
      obtain ⟨_, _, c3⟩ := h.dt.ok hi h1
      exact ⟨b1, b2, fun g m hg hm => by rw [bgo_at (b3 g m hg hm) hs]; exact c3 g m hg hm⟩
  · rw [h.no h0.1 h0.2 hy] at h1; cases h1
  · have hk := h.lt hi h1
    obtain ⟨b1, b2, b3⟩ := h.dt.ok hi h1
    exact ⟨b1, b2, fun g m hg hm => by rw [bgo_el (by rw [hg i hk]; exact h0.2)]; exact b3 g m hg hm⟩
  · subst h0; rw [h.en] at h1; cases h1
  -- malformed
  · cases h1
  · rcases h.yes h0.1 h0.2 hy with ⟨q, h3⟩ | ⟨a', h3⟩
    · rw [h3] at h1; cases h1
    · rw [h3] at h1; cases h1
  · have h3 := h.no h0.1 h0.2 hy
    have h4 := h3
    rw [h1] at h4
    injection h4 with e1 e2
    subst e1 e2
    obtain ⟨b1, b2, b3⟩ := hb.form hi hy
    obtain ⟨c1, c2, c3⟩ := h.dt.form hi h1
    exact ⟨b1, b2, fun g m hg hm => by rw [bgo_un (b3 g m hg hm)]; exact c3 g m hg hm⟩
  · obtain ⟨c1, c2, c3⟩ := h.dt.form hi h1
    exact ⟨c1, c2, fun g m hg hm => by rw [bgo_el (by rw [hg i c1]; exact h0.2)]; exact c3 g m hg hm⟩
  · subst h0; rw [h.en] at h1; cases h1
  -- too short
  · cases h1
  · exact h.dt.short hi h1
  · exact h.dt.short hi h1
  · exact h.dt.short hi h1
  · exact h.dt.short hi h1
  -- a limit
  · cases h1
  · obtain ⟨c1, c2⟩ := h.dt.lim hi h1
    obtain ⟨_, b2, b3⟩ := hb.ok hi hy
    exact ⟨c1, fun g m hg hm => by rw [bgo_at (b3 g m (fun j hj => hg j (by omega)) (by omega)) hs]; exact c2 g m hg hm⟩
  · have h3 := h.no h0.1 h0.2 hy
    have h4 := h3
    rw [h1] at h4
    injection h4 with e1 e2
    subst e1 e2
    obtain ⟨c1, c2⟩ := h.dt.lim hi h1
    obtain ⟨_, b2⟩ := hb.lim hi hy
    exact ⟨c1, fun g m hg hm => by rw [bgo_un (b2 g m hg hm)]; exact c2 g m hg hm⟩
  · obtain ⟨c1, c2⟩ := h.dt.lim hi h1
    exact ⟨c1, fun g m hg hm => by rw [bgo_el (by rw [hg i h0.1]; exact h0.2)]; exact c2 g m hg hm⟩
  · subst h0; rw [h.en] at h1; cases h1
  -- which errors there are
  · cases h1
  · exact h.dt.err hi h1
  · exact h.dt.err hi h1
  · exact h.dt.err hi h1
  · exact h.dt.err hi h1
theorem ex_bgo {size : Nat} (B : ByteArray → α) {T : Prs α} (h : Und size T) : Ex (bgo size B T) := by
  constructor
  intro f n i r hi h1
  have ht : T f n i = .no r 3 := by
    rcases bgo_ways size B T f hi with ⟨s, j, h0, hy, hs, he⟩ | ⟨he, _⟩
    · rw [he] at h1; cases h1
    · rw [← he]; exact h1
  obtain ⟨c, hc, hx⟩ := h.ex.go hi ht
  refine ⟨c, hc, fun g hg hn q' h' => ?_⟩
  rcases bgo_ways size B T g (show i ≤ n + 1 by omega) with ⟨s, j, h0, hy, hs, he⟩ | ⟨he, _⟩
  · rw [he] at h'; cases h'
  · rw [he] at h'; exact hx g hg hn q' h'
/-- one that goes on behind it, without an error -/
theorem Und.ret_ {β : Type} {size : Nat} {T : Prs α} (h : Und size T) (u : α → β) : Und size (T.bind fun a => ret (u a)) := by
  refine ⟨h.dt.bind fun _ => dt_ret _, Ex.bind h.dt h.ex (fun _ => dt_ret _) (fun _ => ex_ret _), fun {f n i a k} hi h1 => ?_, fun {f n} => bind_no h.en, fun {f n i q e} h0 h1 h2 => bind_no (h.no h0 h1 h2), fun {f n i s k} h0 h1 h2 => ?_⟩
  · obtain ⟨b, j, e1, e2⟩ := bind_to h1
    have := h.lt hi e1
    injection e2 with e2 e3
    omega
  · rcases h.yes h0 h1 h2 with ⟨q, h3⟩ | ⟨a, h3⟩
    · exact .inl ⟨q, bind_no h3⟩
    · exact .inr ⟨u a, by rw [bind_ok h3]; rfl⟩
end

/-! items -/
/-- a value and how many there were -/
abbrev Vc := VT × Nat
/-- a value with nothing in it -/
def lef (c p : Nat) (t : VT) : Prs Vc := (gate (decide (65536 ≤ c)) p).bind fun _ => ret (t, c + 1)
/-- so many items -/
def cts (r : Nat → Prs Vc) : Nat → List VT × Nat → Prs (List VT × Nat)
  | 0, z => ret z
  | m + 1, z => (r z.2).bind fun a => cts r m (z.1 ++ [a.1], a.2)
/-- a round of what is open: its end, or w items -/
def lsb (r : Nat → Prs Vc) (w : Nat) (z : List VT × Nat) (b : Nat) : Prs ((List VT × Nat) ⊕ (List VT × Nat)) := if b = 255 then adv (.inr z) else (cts r w z).bind fun z' => ret (.inl z')
/-- what a list or a map holds -/
def lst (size : Nat) (r : Nat → Prs Vc) (w c : Nat) (s : Hdr) : Prs (List VT × Nat) :=
  if s.x = 31 then lp (fun z => pk (lsb r w z)) ([], c) else (bnd size s.p s.v w).bind fun _ => cts r (s.v * w) ([], c)
def tgT (r : Nat → Prs Vc) (c : Nat) (s : Hdr) : Prs Vc := (r (c + 1)).bind fun a => ret (.mk 13 false s.v ⟨#[]⟩ [a.1], a.2)
def tgd (size : Nat) (r : Nat → Prs Vc) (c : Nat) (s : Hdr) : Prs Vc :=
  if s.v = 2 ∨ s.v = 3 then bgo size (fun b => (.mk 5 (decide (s.v = 3)) 0 b [], c + 1)) (tgT r c s) else tgT r c s
/-- what is whole with its head -/
def oth (s : Hdr) : VT :=
  if s.x = 20 ∨ s.x = 21 then .mk 1 false (s.v - 20) ⟨#[]⟩ [] else if s.x = 22 then .mk 0 false 0 ⟨#[]⟩ [] else if s.x = 23 then .mk 2 false 0 ⟨#[]⟩ []
  else if s.x = 25 then .mk 6 false s.v ⟨#[]⟩ [] else if s.x = 26 then .mk 7 false s.v ⟨#[]⟩ [] else if s.x = 27 then .mk 8 false s.v ⟨#[]⟩ [] else .mk 3 false s.v ⟨#[]⟩ []
/-- an item behind its head, d levels more may be open -/
def bod (size d : Nat) (r : Nat → Prs Vc) (c : Nat) (s : Hdr) : Prs Vc :=
  if s.M ≤ 1 then lef c s.p (.mk 4 (decide (s.M = 1)) s.v ⟨#[]⟩ [])
  else if s.M ≤ 3 then (str size s).bind fun b => lef c s.p (.mk (if s.M = 2 then 9 else 10) false 0 b [])
  else if s.M ≤ 5 then (gate (decide (d = 0 ∨ 65536 ≤ c)) s.p).bind fun _ => (lst size r (s.M - 3) (c + 1) s).bind fun a => ret (.mk (if s.M = 4 then 11 else 12) false 0 ⟨#[]⟩ a.1, a.2)
  else if s.M = 6 then (gate (decide (d = 0 ∨ 65536 ≤ c)) s.p).bind fun _ => tgd size r c s
  else lef c s.p (oth s)
def itm (size d : Nat) (r : Nat → Prs Vc) (c : Nat) : Prs Vc := pk fun b => if b = 255 then bad_ else hdr.bind (bod size d r c)
def rdz (size c : Nat) : Prs Vc := (byi size).bind fun s => ret (.mk 9 false 0 s [], c + 1)
/-- an item of which so many levels may be open -/
def rdI (size : Nat) : Nat → Nat → Prs Vc
  | 0 => itm size 0 (rdz size)
  | d + 1 => itm size (d + 1) (rdI size d)
section
variable {f g : Nat → Nat} {m n i k q e c : Nat} {r : Nat → Prs Vc} {size : Nat}
theorem dt_lef (c p : Nat) (t : VT) : Dt (lef c p t) := (dt_gate _ _).bind fun _ => dt_ret _
theorem ex_lef (c p : Nat) (t : VT) : Ex (lef c p t) := Ex.bind (dt_gate _ _) (ex_gate _ _) (fun _ => dt_ret _) (fun _ => ex_ret _)
theorem lef_no {p : Nat} {t : VT} (h : 65536 ≤ c) : lef c p t f n i = .no (min p i) 8 := by
  unfold lef
  apply bind_no
  unfold gate
  rw [if_pos (by simpa using h)]
theorem lef_yes {p : Nat} {t : VT} (h : c < 65536) : lef c p t f n i = .ok (t, c + 1) i := by
  unfold lef
  rw [bind_ok (a := ()) (k := i)]
  · rfl
  · unfold gate
    rw [if_neg (by simpa using h)]
theorem dt_cts (h : ∀ c, Und size (r c)) : ∀ (m : Nat) (z : List VT × Nat), Dt (cts r m z)
  | 0, z => dt_ret z
  | m + 1, z => (h z.2).dt.bind fun _ => dt_cts h m _
theorem ex_cts (h : ∀ c, Und size (r c)) : ∀ (m : Nat) (z : List VT × Nat), Ex (cts r m z)
  | 0, z => ex_ret z
  | m + 1, z => Ex.bind (h z.2).dt (h z.2).ex (fun _ => dt_cts h m _) (fun _ => ex_cts h m _)
theorem cts_lt (h : ∀ c, Und size (r c)) {w : Nat} {z z' : List VT × Nat} (hw : 1 ≤ w) (hi : i ≤ n) (h1 : cts r w z f n i = .ok z' k) : i < k := by
  obtain ⟨w, rfl⟩ : ∃ x, w = x + 1 := ⟨w - 1, by omega⟩
  obtain ⟨a, j, e1, e2⟩ := bind_to h1
  have h2 := (h z.2).lt hi e1
  have := (dt_cts h w (z.1 ++ [a.1], a.2)).ok ((h z.2).dt.ok hi e1).2.1 e2
  omega
theorem bdy_lst (h : ∀ c, Und size (r c)) {w : Nat} (hw : 1 ≤ w) : Bdy fun z => pk (lsb r w z) := by
  have hl : ∀ {z : List VT × Nat} {c : Nat} {f : Nat → Nat} {n i : Nat} {a : (List VT × Nat) ⊕ (List VT × Nat)} {k : Nat}, i < n → lsb r w z c f n i = .ok a k → i < k := fun {z c f n i a k} hi h1 => by
    unfold lsb at h1
    split at h1
    · unfold adv at h1
      rw [if_pos hi] at h1
      injection h1 with h1 h2
      omega
    · obtain ⟨s, j, e1, e2⟩ := bind_to h1
      have := cts_lt h hw (Nat.le_of_lt hi) e1
      injection e2 with e2 e3
      omega
  refine ⟨fun z => dt_pk (fun c => ?_) fun hi _ h => hl hi h, fun {s f n i s' k} hi h => ?_⟩
  · unfold lsb
    split
    · exact dt_adv _
    · exact (dt_cts h _ _).bind fun _ => dt_ret _
  · by_cases hlt : i < n
    · rw [pk_lt hlt] at h; exact hl hlt h
    · rw [pk_end hlt] at h; cases h
theorem ex_lsb (h : ∀ c, Und size (r c)) (w : Nat) (z : List VT × Nat) : Ex (pk (lsb r w z)) := by
  refine ex_pk (fun c => ?_) ⟨255, by decide, fun g n q' _ h' => ?_⟩
  · unfold lsb
    split
    · exact Ex.low (ex_adv _)
    · exact Ex.low (Ex.bind (dt_cts h _ _) (ex_cts h _ _) (fun _ => dt_ret _) (fun _ => ex_ret _))
  · unfold lsb at h'
    rw [if_pos rfl] at h'
    unfold adv at h'
    split at h' <;> cases h'
theorem dt_lst (h : ∀ c, Und size (r c)) {w : Nat} (hw : 1 ≤ w) (c : Nat) (s : Hdr) : Dt (lst size r w c s) := by
  unfold lst
  split
  · exact lp_dt (bdy_lst h hw) _
  · exact (dt_bnd _ _ _ _).bind fun _ => dt_cts h _ _
theorem ex_lst (h : ∀ c, Und size (r c)) {w : Nat} (hw : 1 ≤ w) (c : Nat) (s : Hdr) : Ex (lst size r w c s) := by
  unfold lst
  split
  · exact lp_ex (bdy_lst h hw) (ex_lsb h w) _
  · exact Ex.bind (dt_bnd _ _ _ _) (ex_bnd _ _ _ _) (fun _ => dt_cts h _ _) (fun _ => ex_cts h _ _)
theorem und_tgT (h : ∀ c, Und size (r c)) (c : Nat) (s : Hdr) : Und size (tgT r c s) := (h (c + 1)).ret_ _
theorem dt_tgd (h : ∀ c, Und size (r c)) (c : Nat) (s : Hdr) : Dt (tgd size r c s) := by
  unfold tgd
  split
  · exact dt_bgo _ (und_tgT h c s)
  · exact (und_tgT h c s).dt
theorem ex_tgd (h : ∀ c, Und size (r c)) (c : Nat) (s : Hdr) : Ex (tgd size r c s) := by
  unfold tgd
  split
  · exact ex_bgo _ (und_tgT h c s)
  · exact (und_tgT h c s).ex
theorem dt_bod (h : ∀ c, Und size (r c)) (d c : Nat) (s : Hdr) : Dt (bod size d r c s) := by
  unfold bod
  split
  · exact dt_lef _ _ _
  split
  · exact (dt_str _ _).bind fun _ => dt_lef _ _ _
  split
  · exact (dt_gate _ _).bind fun _ => (dt_lst h (by omega) _ _).bind fun _ => dt_ret _
  split
  · exact (dt_gate _ _).bind fun _ => dt_tgd h _ _
  · exact dt_lef _ _ _
theorem ex_bod (h : ∀ c, Und size (r c)) (d c : Nat) (s : Hdr) : Ex (bod size d r c s) := by
  unfold bod
  split
  · exact ex_lef _ _ _
  split
  · exact Ex.bind (dt_str _ _) (ex_str _ _) (fun _ => dt_lef _ _ _) (fun _ => ex_lef _ _ _)
  split
  · exact Ex.bind (dt_gate _ _) (ex_gate _ _) (fun _ => (dt_lst h (by omega) _ _).bind fun _ => dt_ret _) (fun _ => Ex.bind (dt_lst h (by omega) _ _) (ex_lst h (by omega) _ _) (fun _ => dt_ret _) (fun _ => ex_ret _))
  split
  · exact Ex.bind (dt_gate _ _) (ex_gate _ _) (fun _ => dt_tgd h _ _) (fun _ => ex_tgd h _ _)
  · exact ex_lef _ _ _
theorem itm_at {d : Nat} (hi : i < n) (h : f i ≠ 255) : itm size d r c f n i = hdr.bind (bod size d r c) f n i := by
  unfold itm
  rw [pk_lt hi, if_neg h]
theorem itm_bad {d : Nat} (hi : i < n) (h : f i = 255) : itm size d r c f n i = .no i 4 := by
  unfold itm
  rw [pk_lt hi, if_pos h]
  unfold bad_
  rw [if_pos hi]
theorem itm_end {d : Nat} : itm size d r c f n n = .no n 3 := pk_end (Nat.lt_irrefl _)
theorem itm_lt {d : Nat} {a : Vc} (h : ∀ c, Und size (r c)) (hi : i ≤ n) (h1 : itm size d r c f n i = .ok a k) : i < k := by
  by_cases hlt : i < n
  · by_cases hb : f i = 255
    · rw [itm_bad hlt hb] at h1; cases h1
    · rw [itm_at hlt hb] at h1
      obtain ⟨s, j, e1, e2⟩ := bind_to h1
      have h2 := hdr_ok e1
      have := (dt_bod h d c s).ok h2.2.2.2.2.2.2.2.2.1 e2
      omega
  · obtain rfl : i = n := by omega
    rw [itm_end] at h1; cases h1
theorem und_itm (h : ∀ c, Und size (r c)) (d c : Nat) : Und size (itm size d r c) := by
  refine ⟨dt_pk (fun b => ?_) fun {b f n i a k} hi hb h1 => ?_, ex_pk (fun b => ?_) ⟨0, by decide, fun g n q' hn h' => ?_⟩, fun hi h1 => itm_lt h hi h1, itm_end, fun {f n i q e} h0 h1 h2 => ?_, fun {f n i s k} h0 h1 h2 => ?_⟩
  · split
    · exact dt_bad
    · exact dt_hdr.bind fun s => dt_bod h d c s
  · have : itm size d r c f n i = .ok a k := by
      unfold itm
      rw [pk_lt hi, hb]
      exact h1
    exact itm_lt h (Nat.le_of_lt hi) this
  · split
    · exact exl_bad
    · exact Ex.low (Ex.bind dt_hdr ex_hdr (fun s => dt_bod h d c s) (fun s => ex_bod h d c s))
  · rw [if_neg (by decide)] at h'
    have e1 : gtR (sh g n) (n + 1 - n) = (0, 0, 0, 1, 0) := by
      rw [show n + 1 - n = 1 by omega]
      unfold gtR
      rw [show sh g n 0 = 0 from hn]
      rfl
    have e2 : hdr g (n + 1) n = .ok ⟨n, 0, 0, 0⟩ (n + 1) := by
      unfold hdr
      rw [e1]
      rfl
    rw [bind_ok e2] at h'
    have e3 : bod size d r c ⟨n, 0, 0, 0⟩ = lef c n (.mk 4 false 0 ⟨#[]⟩ []) := rfl
    rw [e3] at h'
    by_cases hc : c < 65536
    · rw [lef_yes hc] at h'; cases h'
    · rw [lef_no (by omega)] at h'; cases h'
  · rw [itm_at h0 (by omega)]
    unfold byi at h2
    cases e1 : hdr f n i with
    | no q' e' => rw [bind_no e1] at h2; rw [bind_no e1]; injection h2 with t1 t2; subst t1 t2; rfl
    | ok s j =>
      rw [bind_ok e1] at h2 ⊢
      have hM := (hdr_ok e1).2.2.2.1
      unfold bod
      rw [if_neg (by omega), if_pos (by omega)]
      exact bind_no h2
  · rw [itm_at h0 (by omega)]
    obtain ⟨a, j, e1, e2⟩ := bind_to h2
    rw [bind_ok e1]
    have hM := (hdr_ok e1).2.2.2.1
    unfold bod
    rw [if_neg (by omega), if_pos (by omega), bind_ok e2]
    by_cases hc : c < 65536
    · exact .inr ⟨_, lef_yes hc⟩
    · exact .inl ⟨_, lef_no (by omega)⟩
theorem und_byi (size : Nat) : Und size (byi size) := by
  refine ⟨dt_byi size, Ex.bind dt_hdr ex_hdr (fun _ => dt_str _ _) (fun _ => ex_str _ _), fun hi h => byi_lt h, bind_no hdr_end, fun _ _ h => h, fun _ _ h => .inr ⟨_, h⟩⟩
theorem und_rdI (size : Nat) : ∀ d c, Und size (rdI size d c)
  | 0, c => und_itm (fun _ => (und_byi size).ret_ _) 0 c
  | d + 1, c => und_itm (und_rdI size d) (d + 1) c

/-! all of the bytes -/
/-- what Decode answers of n bytes f, within limits that may be: the value, the place, the error -/
def dcR (d size : Nat) (f : Nat → Nat) (n : Nat) : VT × Nat × Nat :=
  match rdI size d 0 f (min n size) 0 with
  | .no q e => (emp, q, if e = 3 ∧ size < n then 8 else e)
  | .ok a k => if k < min n size then (emp, k, 4) else if size < n then (emp, k, 8) else (a.1, n, 0)
end
end Go.Proofs.YtpcladdipgchbaaGreatDoor.nn
namespace Go.Proofs.YtpcladdipgchbaaGreatDoor.nn

theorem dsE (k : Int) (g : Bool) (n : Nat) (l : List VT) : sE (.mk k g n ⟨#[]⟩ l) = true := by
  show (ByteArray.toList ⟨#[]⟩).isEmpty = true
  decide +kernel
section
variable {f g : Nat → Nat} {m n i k q e c : Nat} {size : Nat}
/-- the number of a head -/
theorem hdr_num {s : Hdr} (hf : ∀ j, j < n → f j < 256) (h : hdr f n i = .ok s k) : s.M ≤ 7 ∧ s.v < 18446744073709551616 ∧ (s.x < 24 → s.v = s.x) ∧ (s.x = 24 → s.v < 256 ∧ (s.M = 7 → 32 ≤ s.v)) ∧ (s.x = 25 → s.v < 65536) ∧ (s.x = 26 → s.v < 4294967296) := by
  obtain ⟨h0, hk, _, hM, hx, hv, hi, _, _, _⟩ := hdr_ok h
  have h256 := hf i hi
  obtain ⟨M, x, K, hM', hx', hK, h1 | h1 | h1 | h1 | h1 | h1 | h1⟩ := gt_cases (sh f i) (n - i)
  · rw [h1.2] at h0; cases h0
  · rw [h1.2.2] at h0; cases h0
  · rw [h1.2.2] at hv
    have hv' : s.v = x := hv
    have hx2 : f i % 32 = x := hx'
    omega
  · rw [h1.2.2] at hv
    have hv' : s.v = 0 := hv
    have hx2 : f i % 32 = x := hx'
    omega
  · rw [h1.2.2.2.2] at h0; cases h0
  · rw [h1.2.2.2] at h0; cases h0
  · obtain ⟨h11, h12, h13, h14⟩ := h1
    rw [h14] at hv
    have hv' : s.v = be (fun i_1 => sh f i (1 + i_1)) K := hv
    have hx2 : f i % 32 = x := hx'
    have hM2 : f i / 32 = M := hM'
    have k2 := two_k h12
    rw [hK] at k2
    have hlt : be (fun j => sh f i (1 + j)) K < 256 ^ K := be_lt fun j hj => hf (i + (1 + j)) (by omega)
    rw [← hv'] at hlt
    have n1 : K = 1 → s.v = f (i + 1) := by
      rintro rfl
      rw [hv']
      show 0 * 256 + f (i + (1 + 0)) = f (i + 1)
      simp
    have e1 : sh f i 1 = f (i + 1) := rfl
    rw [e1] at h13
    rcases k2 with ⟨k2, k3⟩ | ⟨k2, k3⟩ | ⟨k2, k3⟩ | ⟨k2, k3⟩ <;> rw [k2] at hlt <;> simp only [Nat.reducePow] at hlt <;> refine ⟨by omega, by omega, by omega, ?_, by omega, by omega⟩
    · intro _
      have := n1 k2
      exact ⟨by omega, fun h7 => Classical.byContradiction fun hn => h13 ⟨by omega, by omega, by omega⟩⟩
    all_goals omega
/-- a text that is right -/
def rT (s : ByteArray) : Prop := ckE (bt s) s.size = 0
theorem rT_iff (s : ByteArray) : rT s ↔ al (bt s) t0 s.size = true ∧ (tk (bt s) t0 s.size).c = 0 := by
  unfold rT ckE
  by_cases h : al (bt s) t0 s.size = true
  · rw [if_pos h]
    by_cases hc : (tk (bt s) t0 s.size).c = 0
    · rw [if_pos hc]; exact ⟨fun _ => ⟨h, hc⟩, fun _ => rfl⟩
    · rw [if_neg hc]; exact ⟨fun h2 => (by cases h2), fun h2 => absurd h2.2 hc⟩
  · rw [if_neg h]; exact ⟨fun h2 => (by cases h2), fun h2 => absurd h2.1 h⟩
theorem dbt_app_right {a b : ByteArray} {i : Nat} (h : i < b.size) : bt (a ++ b) (a.size + i) = bt b i := by
  rw [bt_at (show a.size + i < (a ++ b).size by rw [ByteArray.size_append]; omega), bt_at h, ByteArray.getElem_append_right (by omega)]
  simp only [Nat.add_sub_cancel_left]
theorem dbt_app_left {a b : ByteArray} {i : Nat} (h : i < a.size) : bt (a ++ b) i = bt a i := by
  rw [bt_at (show i < (a ++ b).size by rw [ByteArray.size_append]; omega), bt_at h, ByteArray.getElem_append_left h]
theorem tk_z {f : Nat → Nat} {m : Nat} (hc : (tk f t0 m).c = 0) (g : Nat → Nat) : ∀ j, al g (tk f t0 m) j = al g t0 j ∧ (al g t0 j = true → (tk g (tk f t0 m) j).c = (tk g t0 j).c) ∧ (0 < j → al g t0 j = true → tk g (tk f t0 m) j = tk g t0 j)
  | 0 => ⟨rfl, fun _ => hc, fun h => absurd h (by omega)⟩
  | j + 1 => by
    obtain ⟨h1, h2, h3⟩ := tk_z hc g j
    have e1 : ∀ x, al g t0 j = true → ok (tk g (tk f t0 m) j) x = ok (tk g t0 j) x ∧ nx (tk g (tk f t0 m) j) x = nx (tk g t0 j) x := fun x ha => by
      rcases Nat.eq_zero_or_pos j with h0 | h0
      · subst h0
        unfold ok nx
        rw [if_pos (show (tk g (tk f t0 m) 0).c = 0 from hc), if_pos (show (tk g (tk f t0 m) 0).c = 0 from hc)]
        exact ⟨rfl, rfl⟩
      · rw [h3 h0 ha]; exact ⟨rfl, rfl⟩
    have e2 : al g (tk f t0 m) (j + 1) = al g t0 (j + 1) := by
      rw [al_succ, al_succ, h1]
      cases ha : al g t0 j with
      | false => rfl
      | true => rw [(e1 (g j) ha).1]
    have e3 : al g t0 (j + 1) = true → tk g (tk f t0 m) (j + 1) = tk g t0 (j + 1) := fun ha => by
      have ha' : al g t0 j = true := al_mono ha (Nat.le_succ j)
      rw [tk_succ ha', tk_succ (by rw [h1]; exact ha'), (e1 (g j) ha').2]
    exact ⟨e2, fun ha => by rw [e3 ha], fun _ ha => e3 ha⟩
theorem rT_app {a b : ByteArray} (ha : rT a) (hb : rT b) : rT (a ++ b) := by
  rw [rT_iff] at ha hb ⊢
  have e1 : ∀ j, j < a.size → bt (a ++ b) j = bt a j := fun j hj => dbt_app_left hj
  have e2 : ∀ j, j < b.size → bt (a ++ b) (a.size + j) = bt b j := fun j hj => dbt_app_right hj
  have h1 : al (bt (a ++ b)) t0 a.size = true := by rw [al_congr e1]; exact ha.1
  have h2 : tk (bt (a ++ b)) t0 a.size = tk (bt a) t0 a.size := tk_congr e1
  have hz := tk_z ha.2 (bt b) b.size
  have h3 : al (fun i => bt (a ++ b) (a.size + i)) (tk (bt a) t0 a.size) b.size = true := by rw [al_congr e2, hz.1]; exact hb.1
  rw [ByteArray.size_append]
  refine ⟨by rw [al_add h1, h2]; exact h3, ?_⟩
  rw [tk_add h1, h2, tk_congr e2, hz.2.1 hb.1]
  exact hb.2
theorem rT_nil : rT ⟨#[]⟩ := rfl
theorem rT_byt {v : Nat} (hf : ∀ j, j < v → f j < 256) (h : wE f (v : Int) v = 0) : rT (pc f v) := by
  rw [rT_iff, pc_size]
  have e : ∀ j, j < v → bt (pc f v) j = f j := fun j hj => bt_pc hj (hf j hj)
  have ha : aw f (v : Int) v = true ∧ (tk f t0 v).c = 0 := by
    unfold wE at h
    split at h
    · rename_i ha
      split at h
      · cases h
      · rename_i hc
        exact ⟨ha, by omega⟩
    · cases h
  rw [al_congr e, tk_congr e]
  exact ⟨aw_al ha.1, ha.2⟩
theorem byt_right {M v : Nat} {s : ByteArray} (hf : ∀ j, j < n → f j < 256) (hi : i ≤ n) (h : byt M v f n i = .ok s k) (hM : M = 3) : rT s := by
  obtain ⟨h1, rfl, _, h2⟩ := byt_ok hi h
  exact rT_byt (fun j hj => hf (i + j) (by omega)) (h2 hM)
theorem bnd_ok {p v w : Nat} {u : Unit} (h : bnd size p v w f n i = .ok u k) : v ≤ (size - i) / w ∧ k = i := by
  unfold bnd at h
  split at h
  · cases h
  · injection h with _ h
    exact ⟨by omega, h.symm⟩
/-- a round: its end, or one more -/
theorem pcb_ok {M : Nat} {acc : ByteArray} {a : ByteArray ⊕ ByteArray} (h : pk (pcb size M acc) f n i = .ok a k) : (a = .inr acc ∧ k = i + 1) ∨ (∃ s, a = .inl (acc ++ s) ∧ pce size M f n i = .ok s k) := by
  by_cases hlt : i < n
  · rw [pk_lt hlt] at h
    unfold pcb at h
    split at h
    · unfold adv at h
      rw [if_pos hlt] at h
      injection h with h1 h2
      exact .inl ⟨h1.symm, h2.symm⟩
    · split at h
      · obtain ⟨x, y, e1, e2⟩ := bind_to h
        injection e2 with e2 e3
        subst e2 e3
        exact .inr ⟨x, rfl, e1⟩
      · unfold bad_ at h
        split at h <;> cases h
  · rw [pk_end hlt] at h; cases h
theorem pce_right {M : Nat} {s : ByteArray} (hf : ∀ j, j < n → f j < 256) (h : pce size M f n i = .ok s k) (hM : M = 3) : rT s := by
  obtain ⟨s', j', d1, d2⟩ := bind_to h
  obtain ⟨u, j2, d3, d4⟩ := bind_to d2
  obtain ⟨_, rfl⟩ := bnd_ok d3
  exact byt_right hf (hdr_ok d1).2.2.2.2.2.2.2.2.1 d4 hM
theorem str_right {s : Hdr} {b : ByteArray} (hf : ∀ j, j < n → f j < 256) (hi : i ≤ n) (h : str size s f n i = .ok b k) (hM : s.M = 3) : rT b := by
  unfold str at h
  split at h
  · refine lp_inv6 (bdy_pcs size s.M) (fun a _ => rT a) (fun a _ => rT a) (fun {a j a' l} hj ha h1 => ?_) (fun {a j a' l} hj ha h1 => ?_) hi rT_nil h
    · rcases pcb_ok h1 with ⟨e, _⟩ | ⟨s', e, h2⟩
      · cases e
      · injection e with e
        subst e
        exact rT_app ha (pce_right hf h2 hM)
    · rcases pcb_ok h1 with ⟨e, _⟩ | ⟨s', e, h2⟩
      · injection e with e
        subst e
        exact ha
      · cases e
  · obtain ⟨u, j2, d3, d4⟩ := bind_to h
    obtain ⟨_, rfl⟩ := bnd_ok d3
    exact byt_right hf hi d4 hM
theorem gate_ok {b : Bool} {p : Nat} {u : Unit} (h : gate b p f n i = .ok u k) : b = false ∧ k = i := by
  unfold gate at h
  split at h
  · cases h
  · rename_i h0
    injection h with _ h
    exact ⟨by simpa using h0, h.symm⟩
theorem lef_ok {p : Nat} {t : VT} {a : Vc} (h : lef c p t f n i = .ok a k) : c < 65536 ∧ a = (t, c + 1) ∧ k = i := by
  by_cases hc : c < 65536
  · rw [lef_yes hc] at h
    injection h with h1 h2
    exact ⟨hc, h1.symm, h2.symm⟩
  · rw [lef_no (by omega)] at h; cases h
/-- what is read is right -/
structure Rt (d c : Nat) (t : VT) (c' : Nat) : Prop where
  r : rgt t = true
  d : dep t ≤ d
  c : c' = c + cnt t
  m : c' ≤ 65536
  x : ext t = false
  w : wfT t
/-- likewise, of many -/
structure RtL (d c : Nat) (l : List VT) (c' : Nat) : Prop where
  r : rgtL l = true
  d : depL l ≤ d
  c : c' = c + cntL l
  m : c' ≤ 65536
  x : extL l = false
  w : wfL l
theorem wfL_app9 {a b : List VT} (ha : wfL a) (hb : wfL b) : wfL (a ++ b) := by
  induction a with
  | nil => exact hb
  | cons t r ih => exact ⟨ha.1, ih ha.2⟩
theorem RtL.nil {d c : Nat} (h : c ≤ 65536) : RtL d c [] c := ⟨rfl, Nat.zero_le _, rfl, h, rfl, trivial⟩
theorem RtL.app {d c c' c'' : Nat} {l : List VT} {t : VT} (h : RtL d c l c') (h1 : Rt d c' t c'') : RtL d c (l ++ [t]) c'' := by
  refine ⟨by rw [rgtL_app, h.r]; show (true && (rgt t && true)) = true; rw [h1.r]; rfl, ?_, ?_, h1.m, by rw [extL_app, h.x]; show (false || (ext t || false)) = false; rw [h1.x]; rfl, wfL_app9 h.w ⟨h1.w, trivial⟩⟩
  · rw [depL_app]
    have := h.d; have := h1.d
    show max (depL l) (max (dep t) 0) ≤ d
    omega
  · rw [cntL_app]
    have := h.c; have := h1.c
    show c'' = c + (cntL l + (cnt t + 0))
    omega
/-- where a reader reads right things -/
def Prt (size d : Nat) (r : Nat → Prs Vc) (f : Nat → Nat) (n : Nat) : Prop := ∀ {c i : Nat} {t : VT} {c' k : Nat}, i ≤ n → r c f n i = .ok (t, c') k → Rt d c t c' ∧ k ≤ n ∧ (t.k = 9 → (i < n ∧ f i / 32 = 2) ∧ byi size f n i = .ok t.s k)
theorem cts_right {d : Nat} {r : Nat → Prs Vc} (h : Prt size d r f n) : ∀ (m : Nat) (z z' : List VT × Nat) (c i k : Nat), i ≤ n → RtL d c z.1 z.2 → cts r m z f n i = .ok z' k → RtL d c z'.1 z'.2 ∧ z'.1.length = z.1.length + m
  | 0, z, z', c, i, k, hi, hz, h1 => by injection h1 with h1 _; subst h1; exact ⟨hz, rfl⟩
  | m + 1, z, z', c, i, k, hi, hz, h1 => by
    obtain ⟨⟨t, c'⟩, j, e1, e2⟩ := bind_to h1
    obtain ⟨h2, h3, _⟩ := h hi e1
    obtain ⟨h4, h5⟩ := cts_right h m _ z' c j k h3 (hz.app h2) e2
    refine ⟨h4, ?_⟩
    rw [h5, List.length_append]
    show z.1.length + 1 + m = _
    omega
theorem lsb_ok {r : Nat → Prs Vc} {w : Nat} {z : List VT × Nat} {a : (List VT × Nat) ⊕ (List VT × Nat)} (h : pk (lsb r w z) f n i = .ok a k) : (a = .inr z ∧ k = i + 1) ∨ (∃ z', a = .inl z' ∧ cts r w z f n i = .ok z' k) := by
  by_cases hlt : i < n
  · rw [pk_lt hlt] at h
    unfold lsb at h
    split at h
    · unfold adv at h
      rw [if_pos hlt] at h
      injection h with h1 h2
      exact .inl ⟨h1.symm, h2.symm⟩
    · obtain ⟨x, y, e1, e2⟩ := bind_to h
      injection e2 with e2 e3
      subst e2 e3
      exact .inr ⟨x, rfl, e1⟩
  · rw [pk_end hlt] at h; cases h
theorem lst_right {d : Nat} {r : Nat → Prs Vc} {w : Nat} {s : Hdr} {a : List VT × Nat} (hu : ∀ c, Und size (r c)) (h : Prt size d r f n) (hw : 1 ≤ w) (hi : i ≤ n) (hc : c ≤ 65536) (h1 : lst size r w c s f n i = .ok a k) : RtL d c a.1 a.2 ∧ ∃ j, a.1.length = j * w := by
  unfold lst at h1
  split at h1
  · refine lp_inv6 (bdy_lst hu hw) (fun z _ => RtL d c z.1 z.2 ∧ ∃ j, z.1.length = j * w) (fun z _ => RtL d c z.1 z.2 ∧ ∃ j, z.1.length = j * w) (fun {z j z' l} hj ha h1 => ?_) (fun {z j z' l} hj ha h1 => ?_) hi ⟨.nil hc, 0, by simp⟩ h1
    · rcases lsb_ok h1 with ⟨e, _⟩ | ⟨z2, e, h2⟩
      · cases e
      · injection e with e
        subst e
        obtain ⟨b1, b2⟩ := cts_right h w z _ c j l hj ha.1 h2
        obtain ⟨j', hj'⟩ := ha.2
        exact ⟨b1, j' + 1, by rw [b2, hj', Nat.succ_mul]⟩
    · rcases lsb_ok h1 with ⟨e, _⟩ | ⟨z2, e, h2⟩
      · injection e with e
        subst e
        exact ha
      · cases e
  · obtain ⟨u, j2, d3, d4⟩ := bind_to h1
    obtain ⟨_, rfl⟩ := bnd_ok d3
    obtain ⟨b1, b2⟩ := cts_right h (s.v * w) ([], c) a c _ k hi (.nil hc) d4
    exact ⟨b1, s.v, by rw [b2]; simp⟩
theorem leaf_right {d c : Nat} {k : Int} {g : Bool} {n : Nat} {s : ByteArray} (hk : lf k = true) (h5 : k ≠ 5) (h14 : k ≠ 14) (h1 : oneB (.mk k g n s []) = true) (hn : n < 18446744073709551616) (hc : c < 65536) : Rt d c (.mk k g n s []) (c + 1) := by
  have hk2 : 0 ≤ k ∧ k ≤ 14 := oneB_k h1
  refine ⟨?_, ?_, rfl, hc, ?_, ⟨by omega, by omega, hn, trivial⟩⟩
  · show (oneB (.mk k g n s []) && (!(lf k) || decide (([] : List VT).length = 0)) && true) = true
    rw [h1, hk]
    rfl
  · show (if k = 5 then 1 else if lf k then 0 else _) ≤ d
    rw [if_neg h5, if_pos hk]
    exact Nat.zero_le _
  · show (decide (k = 14) || false) = false
    rw [decide_eq_false h14]
    rfl
end
end Go.Proofs.YtpcladdipgchbaaGreatDoor.nn
namespace Go.Proofs.YtpcladdipgchbaaGreatDoor.nn

section
variable {f g : Nat → Nat} {m n i k q e c : Nat} {size : Nat}
theorem kne {k : Int} {g : Bool} {n : Nat} {s : ByteArray} {l : List VT} (h : k ≠ 9) : (VT.mk k g n s l).k ≠ 9 := h
theorem one11 {l : List VT} : oneB (.mk 11 false 0 ⟨#[]⟩ l) = true := by
  show (sE (.mk 11 false 0 ⟨#[]⟩ l) && true && true) = true
  rw [dsE]; rfl
theorem one12 {l : List VT} (h : l.length % 2 = 0) : oneB (.mk 12 false 0 ⟨#[]⟩ l) = true := by
  show (sE (.mk 12 false 0 ⟨#[]⟩ l) && true && true && decide (l.length % 2 = 0)) = true
  rw [dsE, decide_eq_true h]; rfl
theorem one13 {v : Nat} {t : VT} (h : guise v [t] = false) : oneB (.mk 13 false v ⟨#[]⟩ [t]) = true := by
  show (sE (.mk 13 false v ⟨#[]⟩ [t]) && true && true && !guise v [t]) = true
  rw [dsE, h]; rfl
theorem one4 {g : Bool} {v : Nat} : oneB (.mk 4 g v ⟨#[]⟩ []) = true := dsE _ _ _ _
theorem one9 {b : ByteArray} : oneB (.mk 9 false 0 b []) = true := rfl
theorem one10 {b : ByteArray} (h : rT b) : oneB (.mk 10 false 0 b []) = true := by
  show (true && true && decide (ckE (bt b) b.size = 0)) = true
  rw [decide_eq_true (show ckE (bt b) b.size = 0 from h)]; rfl
theorem one5 {g : Bool} {b : ByteArray} (h : big b = true) : oneB (.mk 5 g 0 b []) = true := by
  show (true && big b) = true
  rw [h]; rfl
theorem many_right {d c : Nat} {k : Int} {l : List VT} {c' : Nat} (hk : k = 11 ∨ k = 12) (ho : oneB (.mk k false 0 ⟨#[]⟩ l) = true) (h : RtL d (c + 1) l c') : Rt (d + 1) c (.mk k false 0 ⟨#[]⟩ l) c' := by
  have hlf : lf k = false := by rcases hk with rfl | rfl <;> rfl
  refine ⟨?_, ?_, ?_, h.m, ?_, ⟨by omega, by omega, by omega, h.w⟩⟩
  · show (oneB (.mk k false 0 ⟨#[]⟩ l) && (!(lf k) || decide (l.length = 0)) && rgtL l) = true
    rw [ho, hlf, h.r]
    rfl
  · show (if k = 5 then 1 else if lf k then 0 else depL l + 1) ≤ d + 1
    rw [if_neg (by omega), hlf]
    exact Nat.succ_le_succ h.d
  · have := h.c
    show c' = c + (cntL l + 1)
    omega
  · show (decide (k = 14) || extL l) = false
    rw [h.x, decide_eq_false (by omega)]
    rfl
theorem tag_right {d c v : Nat} {t : VT} {c' : Nat} (ho : guise v [t] = false) (hv : v < 18446744073709551616) (h : Rt d (c + 1) t c') : Rt (d + 1) c (.mk 13 false v ⟨#[]⟩ [t]) c' := by
  refine ⟨?_, ?_, ?_, h.m, ?_, ⟨by omega, by omega, hv, h.w, trivial⟩⟩
  · show (oneB (.mk 13 false v ⟨#[]⟩ [t]) && (!(lf 13) || decide ([t].length = 0)) && (rgt t && true)) = true
    rw [one13 ho, h.r]
    rfl
  · show max (dep t) 0 + 1 ≤ d + 1
    have := h.d
    omega
  · have := h.c
    show c' = c + (cnt t + 0 + 1)
    omega
  · show (false || (ext t || false)) = false
    rw [h.x]
    rfl
theorem big_right {d c : Nat} {g : Bool} {b : ByteArray} (hb : big b = true) (hc : c < 65536) : Rt (d + 1) c (.mk 5 g 0 b []) (c + 1) := by
  refine ⟨?_, ?_, rfl, hc, rfl, ⟨by omega, by omega, by omega, trivial⟩⟩
  · show (oneB (.mk 5 g 0 b []) && (!(lf 5) || true) && true) = true
    rw [one5 hb]
    rfl
  · show 1 ≤ d + 1
    omega
theorem oth_right {d c : Nat} {s : Hdr} (hx : s.x ≤ 27) (h0 : s.x < 24 → s.v = s.x) (h1 : s.x = 24 → s.v < 256 ∧ 32 ≤ s.v) (h2 : s.x = 25 → s.v < 65536) (h3 : s.x = 26 → s.v < 4294967296) (h4 : s.v < 18446744073709551616) (hc : c < 65536) : Rt d c (oth s) (c + 1) ∧ (oth s).k ≠ 9 := by
  unfold oth
  by_cases a1 : s.x = 20 ∨ s.x = 21
  · rw [if_pos a1]
    refine ⟨leaf_right rfl (by decide) (by decide) ?_ (by omega) hc, kne (by decide)⟩
    show (sE (.mk 1 false (s.v - 20) ⟨#[]⟩ []) && true && decide (s.v - 20 ≤ 1)) = true
    rw [dsE, decide_eq_true (by omega)]; rfl
  rw [if_neg a1]
  by_cases a2 : s.x = 22
  · rw [if_pos a2]
    refine ⟨leaf_right rfl (by decide) (by decide) ?_ (by omega) hc, kne (by decide)⟩
    show (sE (.mk 0 false 0 ⟨#[]⟩ []) && true && true) = true
    rw [dsE]; rfl
  rw [if_neg a2]
  by_cases a3 : s.x = 23
  · rw [if_pos a3]
    refine ⟨leaf_right rfl (by decide) (by decide) ?_ (by omega) hc, kne (by decide)⟩
    show (sE (.mk 2 false 0 ⟨#[]⟩ []) && true && true) = true
    rw [dsE]; rfl
  rw [if_neg a3]
  by_cases a4 : s.x = 25
  · rw [if_pos a4]
    refine ⟨leaf_right rfl (by decide) (by decide) ?_ (by omega) hc, kne (by decide)⟩
    show (sE (.mk 6 false s.v ⟨#[]⟩ []) && true && decide (s.v < 65536)) = true
    rw [dsE, decide_eq_true (h2 a4)]; rfl
  rw [if_neg a4]
  by_cases a5 : s.x = 26
  · rw [if_pos a5]
    refine ⟨leaf_right rfl (by decide) (by decide) ?_ (by omega) hc, kne (by decide)⟩
    show (sE (.mk 7 false s.v ⟨#[]⟩ []) && true && decide (s.v < 4294967296)) = true
    rw [dsE, decide_eq_true (h3 a5)]; rfl
  rw [if_neg a5]
  by_cases a6 : s.x = 27
  · rw [if_pos a6]
    refine ⟨leaf_right rfl (by decide) (by decide) ?_ (by omega) hc, kne (by decide)⟩
    show (sE (.mk 8 false s.v ⟨#[]⟩ []) && true) = true
    rw [dsE]; rfl
  rw [if_neg a6]
  refine ⟨leaf_right rfl (by decide) (by decide) ?_ (by omega) hc, kne (by decide)⟩
  show (sE (.mk 3 false s.v ⟨#[]⟩ []) && true && decide (s.v ≤ 19 ∨ 32 ≤ s.v ∧ s.v ≤ 255)) = true
  rw [dsE, decide_eq_true (by omega)]; rfl
theorem itm_right {d : Nat} {r : Nat → Prs Vc} (hf : ∀ j, j < n → f j < 256) (hu : ∀ c, Und size (r c)) (hr : ∀ e, d = e + 1 → Prt size e r f n) : Prt size d (itm size d r) f n := by
  intro c i t c' k hi h1
  have hlt : i < n := by
    rcases Nat.lt_or_ge i n with h | h
    · exact h
    · obtain rfl : i = n := by omega
      rw [itm_end] at h1; cases h1
  have hb : f i ≠ 255 := fun hb => by rw [itm_bad hlt hb] at h1; cases h1
  rw [itm_at hlt hb] at h1
  obtain ⟨s, j, e1, e2⟩ := bind_to h1
  obtain ⟨_, _, hp, hM, hx, _, _, hij, hjn, hx2⟩ := hdr_ok e1
  obtain ⟨hM7, hv, n0, n1, n2, n3⟩ := hdr_num hf e1
  have hkn : k ≤ n := ((dt_bod hu d c s).ok hjn e2).2.1
  suffices h : Rt d c t c' ∧ (t.k = 9 → (i < n ∧ f i / 32 = 2) ∧ byi size f n i = .ok t.s k) from ⟨h.1, hkn, h.2⟩
  unfold bod at e2
  by_cases M1 : s.M ≤ 1
  · rw [if_pos M1] at e2
    obtain ⟨hc, ht, _⟩ := lef_ok e2
    injection ht with t1 t2
    subst t1 t2
    exact ⟨leaf_right rfl (by decide) (by decide) one4 hv hc, fun h => absurd h (kne (by decide))⟩
  rw [if_neg M1] at e2
  by_cases M3 : s.M ≤ 3
  · rw [if_pos M3] at e2
    obtain ⟨b, j2, e3, e4⟩ := bind_to e2
    obtain ⟨hc, ht, hj⟩ := lef_ok e4
    injection ht with t1 t2
    subst t1 t2 hj
    by_cases M2 : s.M = 2
    · rw [if_pos M2]
      refine ⟨leaf_right rfl (by decide) (by decide) one9 (by omega) hc, fun _ => ⟨⟨hlt, by omega⟩, ?_⟩⟩
      unfold byi
      rw [bind_ok e1]
      exact e3
    · rw [if_neg M2]
      exact ⟨leaf_right rfl (by decide) (by decide) (one10 (str_right hf hjn e3 (by omega))) (by omega) hc, fun h => absurd h (kne (by decide))⟩
  rw [if_neg M3] at e2
  by_cases M5 : s.M ≤ 5
  · rw [if_pos M5] at e2
    obtain ⟨u, j2, e3, e4⟩ := bind_to e2
    obtain ⟨hg, rfl⟩ := gate_ok e3
    have hg2 := of_decide_eq_false hg
    obtain ⟨a, j3, e5, e6⟩ := bind_to e4
    injection e6 with e6 _
    injection e6 with t1 t2
    subst t1 t2
    obtain ⟨e, rfl⟩ : ∃ e, d = e + 1 := ⟨d - 1, by omega⟩
    obtain ⟨b1, x, b2⟩ := lst_right hu (hr e rfl) (show 1 ≤ s.M - 3 by omega) hjn (show c + 1 ≤ 65536 by omega) e5
    by_cases M4 : s.M = 4
    · rw [if_pos M4]
      exact ⟨many_right (.inl rfl) one11 b1, fun h => absurd h (kne (by decide))⟩
    · rw [if_neg M4]
      exact ⟨many_right (.inr rfl) (one12 (by rw [b2, show s.M - 3 = 2 by omega]; omega)) b1, fun h => absurd h (kne (by decide))⟩
  rw [if_neg M5] at e2
  by_cases M6 : s.M = 6
  · rw [if_pos M6] at e2
    obtain ⟨u, j2, e3, e4⟩ := bind_to e2
    obtain ⟨hg, rfl⟩ := gate_ok e3
    have hg2 := of_decide_eq_false hg
    obtain ⟨e, rfl⟩ : ∃ e, d = e + 1 := ⟨d - 1, by omega⟩
    have hT : ∀ {t : VT} {c' k : Nat}, tgT r c s f n j2 = .ok (t, c') k → (s.v = 2 ∨ s.v = 3 → ∀ b k', f j2 / 32 = 2 → byi size f n j2 = .ok b k' → big b = false) → Rt (e + 1) c t c' ∧ t.k ≠ 9 := fun {t c' k} h hn => by
      obtain ⟨⟨x, c2⟩, j3, e5, e6⟩ := bind_to h
      injection e6 with e6 _
      injection e6 with t1 t2
      subst t1 t2
      obtain ⟨b1, _, b2⟩ := hr e rfl hjn e5
      refine ⟨tag_right ?_ hv b1, kne (by decide)⟩
      show (decide (s.v = 2 ∨ s.v = 3) && (decide (x.k = 9) && big x.s)) = false
      by_cases h23 : s.v = 2 ∨ s.v = 3
      · by_cases h9 : x.k = 9
        · rw [hn h23 _ _ (b2 h9).1.2 (b2 h9).2]; simp
        · rw [decide_eq_false h9]; simp
      · rw [decide_eq_false h23]; rfl
    unfold tgd at e4
    by_cases h23 : s.v = 2 ∨ s.v = 3
    · rw [if_pos h23] at e4
      rcases bgo_ways size (fun b => ((.mk 5 (decide (s.v = 3)) 0 b [] : VT), c + 1)) (tgT r c s) f hjn with ⟨b, k', h0, hy, hs, he⟩ | ⟨he, hw⟩
      · rw [he] at e4
        injection e4 with e4 _
        injection e4 with t1 t2
        subst t1 t2
        exact ⟨big_right hs (by omega), fun h => absurd h (kne (by decide))⟩
      · rw [he] at e4
        obtain ⟨r1, r2⟩ := hT e4 fun _ b k' hf2 hy => by
          rcases hw with ⟨b', k2, _, hy', hs⟩ | ⟨q, e', _, hy'⟩ | ⟨h0, h2⟩ | h0
          · rw [hy] at hy'; injection hy' with hy' _; subst hy'; exact hs
          · rw [hy] at hy'; cases hy'
          · exact absurd hf2 h2
          · subst h0; rw [show byi size f j2 j2 = .no j2 3 from bind_no hdr_end] at hy; cases hy
        exact ⟨r1, fun h => absurd h r2⟩
    · rw [if_neg h23] at e4
      obtain ⟨r1, r2⟩ := hT e4 fun h => absurd h h23
      exact ⟨r1, fun h => absurd h r2⟩
  rw [if_neg M6] at e2
  obtain ⟨hc, ht, _⟩ := lef_ok e2
  injection ht with t1 t2
  subst t1 t2
  have h7 : s.M = 7 := by omega
  have := oth_right (d := d) (s := s) (by omega) n0 (fun h => ⟨(n1 h).1, (n1 h).2 h7⟩) n2 n3 hv hc
  exact ⟨this.1, fun h => absurd h this.2⟩
end
end Go.Proofs.YtpcladdipgchbaaGreatDoor.nn
namespace Go.Proofs.YtpcladdipgchbaaGreatDoor.nn

/-- from a place on stand these bytes -/
def Ats (f : Nat → Nat) (i : Nat) (L : List UInt8) : Prop := ∀ j x, L[j]? = some x → f (i + j) = x.toNat
section
variable {f g : Nat → Nat} {m n i k q e c : Nat} {size : Nat}
theorem Ats.left {A B : List UInt8} (h : Ats f i (A ++ B)) : Ats f i A := fun j x hx => h j x (by rw [List.getElem?_append_left (List.getElem?_eq_some_iff.1 hx).1]; exact hx)
theorem Ats.right {A B : List UInt8} (h : Ats f i (A ++ B)) : Ats f (i + A.length) B := fun j x hx => by
  rw [Nat.add_assoc]
  exact h (A.length + j) x (by rw [List.getElem?_append_right (by omega), Nat.add_sub_cancel_left]; exact hx)
theorem Ats.head {a : UInt8} {A : List UInt8} (h : Ats f i (a :: A)) : f i = a.toNat := h 0 a rfl
theorem Ats.tail {a : UInt8} {A : List UInt8} (h : Ats f i (a :: A)) : Ats f (i + 1) A := fun j x hx => by
  rw [Nat.add_assoc, Nat.add_comm 1 j]
  exact h (j + 1) x hx
theorem Ats.lsF {u : Nat → Nat} (h : Ats f i (lsF u m)) (hu : ∀ j, j < m → u j < 256) {j : Nat} (hj : j < m) : f (i + j) = u j := by
  have := h j (UInt8.ofNat (u j)) (by simp [nn.lsF, hj])
  rw [this, UInt8.toNat_ofNat']
  have := hu j hj
  omega
/-- a head that is written is read -/
theorem hdr_back {M v : Nat} (hM : M ≤ 6 ∨ (M = 7 ∧ (v ≤ 23 ∨ (32 ≤ v ∧ v ≤ 255)))) (hv : v < 18446744073709551616) (ha : Ats f i (hdP M v)) (hn : i + (hdP M v).length ≤ n) :
    ∃ x, hdr f n i = .ok ⟨i, M, x, v⟩ (i + (hdP M v).length) ∧ x ≤ 27 ∧ (v < 24 → x = v) ∧ (24 ≤ v → 24 ≤ x) ∧ (v < 256 → x ≤ 24) ∧ f i = M * 32 + x := by
  have hok : hdOk (M : Int) v (hdS v) = true := by
    rcases hM with h | ⟨rfl, h⟩
    · exact hd_ok6 v h
    · exact hd_ok7 h
  rw [hdP_len] at hn ⊢
  have hS := hdS_cases v
  have hI := hdI_cases (hdS v : Int)
  have h256 : ∀ j, j < hdS v + 1 → hdB M v (hdS v) j < 256 := fun j hj => by
    unfold hdB
    split
    · split <;> omega
    · omega
  have hf : ∀ j, j < hdS v + 1 → f (i + j) = hdB M v (hdS v) j := fun j hj => Ats.lsF ha h256 hj
  obtain ⟨x, hx⟩ := gt_back (f := sh f i) (m := n - i) hok hv (fun j hj => by
    have hj' : j < hdS v + 1 := by omega
    exact hf j hj') (by omega)
  have hx' : gtR (sh f i) (n - i) = (M, x, v, hdS v + 1, 0) := by
    rw [hx]
    rfl
  have hf0 : f i = M * 32 + (if hdS v = 0 then v else hdI (hdS v)) := hf 0 (by omega)
  have h1 : hdr f n i = .ok ⟨i, M, x, v⟩ (i + (hdS v + 1)) := by
    unfold hdr
    rw [hx']
    rfl
  obtain ⟨_, _, _, hM2, hx2, _, _, _, _, _⟩ := hdr_ok h1
  have hM3 : M = f i / 32 := hM2
  have hx3 : x = f i % 32 := hx2
  refine ⟨x, h1, ?_, ?_, ?_, ?_, by omega⟩
  all_goals split at hf0 <;> omega
/-- a float that is written is read -/
theorem hdr_fl {x v K : Nat} (hx : (x = 25 ∧ K = 2) ∨ (x = 26 ∧ K = 4) ∨ (x = 27 ∧ K = 8)) (hv : v < 256 ^ K) (ha : Ats f i (flP (224 + x) v K)) (hn : i + (flP (224 + x) v K).length ≤ n) :
    hdr f n i = .ok ⟨i, 7, x, v⟩ (i + (flP (224 + x) v K).length) ∧ f i ≠ 255 := by
  rw [flP_len] at hn ⊢
  have h0 : f i = 224 + x := by
    rw [Ats.head ha, UInt8.toNat_ofNat']
    omega
  have ht := Ats.tail ha
  have hb : ∀ j, j < K → f (i + 1 + j) = v / 256 ^ (K - 1 - j) % 256 := fun j hj => Ats.lsF (u := fun j => v / 256 ^ (K - 1 - j) % 256) ht (fun j _ => Nat.mod_lt _ (by decide)) hj
  have hbe : be (fun j => sh f i (1 + j)) K = v := by
    have := be_of10 (O := fun j => sh f i (1 + j)) hv (fun j hj => by
      show f (i + (1 + j)) = _
      rw [← Nat.add_assoc]
      exact hb j hj) K (Nat.le_refl _)
    rw [this, Nat.sub_self, Nat.pow_zero, Nat.div_one]
  refine ⟨?_, by omega⟩
  obtain ⟨M', x', K', hM', hx', hK, h1 | h1 | h1 | h1 | h1 | h1 | h1⟩ := gt_cases (sh f i) (n - i)
  all_goals
    have e0 : sh f i 0 = f i := rfl
    rw [e0] at hM' hx'
  · omega
  · omega
  · omega
  · omega
  · omega
  · have hKK : K' = K := by have k2 := two_k h1.2.1; rw [hK] at k2; omega
    omega
  · have hKK : K' = K := by have k2 := two_k h1.2.1; rw [hK] at k2; omega
    subst hKK
    have hM7 : M' = 7 := by omega
    have hxx : x' = x := by omega
    subst hM7 hxx
    unfold hdr
    rw [h1.2.2.2, hbe]
    rfl
/-- the first byte of what is open -/
theorem hdr_open {M : Nat} (hM : 2 ≤ M ∧ M ≤ 5) (h : f i = M * 32 + 31) (hi : i < n) : hdr f n i = .ok ⟨i, M, 31, 0⟩ (i + 1) := by
  have : gtR (sh f i) (n - i) = (M, 31, 0, 1, 0) := by
    unfold gtR
    have e0 : sh f i 0 = f i := rfl
    rw [e0, h, show (M * 32 + 31) % 32 = 31 by omega, show (M * 32 + 31) / 32 = M by omega, if_neg (by omega), if_neg (by omega), if_neg (by omega), if_pos rfl]
  unfold hdr
  rw [this]
  rfl
theorem dba_ext {a b : ByteArray} (h : a.size = b.size) (e : ∀ i, i < a.size → bt a i = bt b i) : a = b := by
  refine ByteArray.ext_getElem h fun i h1 h2 => ?_
  have := e i h1
  rw [bt_at h1, bt_at h2] at this
  exact UInt8.toNat_inj.1 this
theorem Ats.txt {s : ByteArray} (h : Ats f i s.data.toList) : ∀ j, j < s.size → sh f i j = bt s j := fun j hj => by
  have h1 : j < s.data.toList.length := by rw [ba_len]; exact hj
  have := h j _ (List.getElem?_eq_getElem h1)
  rw [bt_at hj]
  show f (i + j) = _
  rw [this]
  rfl
theorem pc_txt {s : ByteArray} (h : ∀ j, j < s.size → f j = bt s j) : pc f s.size = s := by
  refine dba_ext (pc_size _ _) fun j hj => ?_
  rw [pc_size] at hj
  rw [bt_pc hj (by rw [h j hj]; exact bt_lt _ _), h j hj]
theorem wE_rT {s : ByteArray} (h : ∀ j, j < s.size → f j = bt s j) (hr : rT s) : wE f (s.size : Int) s.size = 0 := by
  rw [rT_iff] at hr
  rw [wE_congr h]
  have key : ∀ d j, j + d = s.size → ((tk (bt s) t0 j).c : Int) + j ≤ s.size := by
    intro d
    induction d with
    | zero => intro j hj; rw [show j = s.size by omega, hr.2]; omega
    | succ d ih =>
      intro j hj
      have h1 := ih (j + 1) (by omega)
      by_cases hc : (tk (bt s) t0 j).c = 0
      · omega
      · have := due_step (f := bt s) (i := j) (al_mono hr.1 (by omega)) hc
        omega
  have haw : ∀ j, j ≤ s.size → aw (bt s) (s.size : Int) j = true := by
    intro j
    induction j with
    | zero => intro _; rfl
    | succ j ih =>
      intro hj
      refine aw_mk (ih (by omega)) (al_mono hr.1 hj) (.inr ?_)
      have := key (s.size - (j + 1)) (j + 1) (by omega)
      omega
  unfold wE
  rw [if_pos (haw _ (Nat.le_refl _)), if_neg (by rw [hr.2]; omega)]
/-- bytes or a text that are written are read -/
theorem byt_back {M : Nat} {s : ByteArray} (h : Ats f i s.data.toList) (hn : i + s.size ≤ n) (hr : M = 3 → rT s) : byt M s.size f n i = .ok s (i + s.size) := by
  have h1 := Ats.txt h
  rw [byt_yes (by omega) (fun hM => wE_rT h1 (hr hM)), pc_txt h1]
theorem bnd_yes {p v w : Nat} (h : v ≤ (size - i) / w) : bnd size p v w f n i = .ok () i := by
  unfold bnd
  rw [if_neg (by omega)]
theorem pce_back {M : Nat} {s : ByteArray} (hM : M ≤ 6) (hs : s.size < 18446744073709551616) (h : Ats f i (pcP M s)) (hn : i + (pcP M s).length ≤ n) (hz : i + (pcP M s).length ≤ size) (hr : M = 3 → rT s) :
    pce size M f n i = .ok s (i + (pcP M s).length) ∧ ∃ x, x ≤ 27 ∧ f i = M * 32 + x := by
  unfold pcP at h hn hz ⊢
  rw [List.length_append, ba_len] at hn hz ⊢
  obtain ⟨x, h1, h2, _, _, _, h3⟩ := hdr_back (.inl hM) hs h.left (n := n) (by omega)
  refine ⟨?_, x, h2, h3⟩
  unfold pce
  have hb : bnd size i s.size 1 f n (i + (hdP M s.size).length) = .ok () (i + (hdP M s.size).length) := bnd_yes (by rw [Nat.div_one]; omega)
  rw [bind_ok h1]
  show ((bnd size i s.size 1).bind fun _ => byt M s.size) f n _ = _
  rw [bind_ok hb, byt_back h.right (by omega) hr, Nat.add_assoc]
theorem byi_back {o : Bool} {M : Nat} {s : ByteArray} (hM : M = 2 ∨ M = 3) (hs : s.size < 18446744073709551616) (h : Ats f i (txP o M s)) (hn : i + (txP o M s).length ≤ n) (hz : i + (txP o M s).length ≤ size) (hr : M = 3 → rT s) :
    ∃ hd j, hdr f n i = .ok hd j ∧ hd.M = M ∧ hd.p = i ∧ str size hd f n j = .ok s (i + (txP o M s).length) ∧ f i / 32 = M ∧ f i ≠ 255 ∧ i < n := by
  cases o with
  | false =>
    have e : txP false M s = pcP M s := rfl
    rw [e] at h hn hz ⊢
    unfold pcP at h hn hz ⊢
    rw [List.length_append, ba_len] at hn hz ⊢
    obtain ⟨x, h1, h2, _, _, _, h3⟩ := hdr_back (.inl (by omega)) hs h.left (n := n) (by omega)
    have hlt := (hdr_ok h1).2.2.2.2.2.2.1
    refine ⟨_, _, h1, rfl, rfl, ?_, by omega, by omega, hlt⟩
    unfold str
    have hb : bnd size i s.size 1 f n (i + (hdP M s.size).length) = .ok () (i + (hdP M s.size).length) := bnd_yes (by rw [Nat.div_one]; omega)
    rw [if_neg (by show ¬ x = 31; omega)]
    show ((bnd size i s.size 1).bind fun _ => byt M s.size) f n _ = _
    rw [bind_ok hb]
    rw [byt_back h.right (by omega) hr, Nat.add_assoc]
  | true =>
    have e : txP true M s = opP M :: ((if s.size = 0 then [] else pcP M s) ++ [255]) := rfl
    rw [e] at h hn hz ⊢
    rw [List.length_cons, List.length_append] at hn hz ⊢
    have h0 : f i = M * 32 + 31 := by
      rw [Ats.head h]
      show (UInt8.ofNat (M * 32 + 31)).toNat = _
      rw [UInt8.toNat_ofNat']
      omega
    have ht := Ats.tail h
    refine ⟨_, _, hdr_open (by omega) h0 (by omega), rfl, rfl, ?_, by omega, by omega, by omega⟩
    unfold str
    rw [if_pos rfl]
    show lp (fun acc => pk (pcb size M acc)) ⟨#[]⟩ f n (i + 1) = _
    have hend : ∀ (acc : ByteArray) (j : Nat), Ats f j [255] → j + 1 ≤ n → lp (fun acc => pk (pcb size M acc)) acc f n j = .ok acc (j + 1) := fun acc j hj hn => by
      have h255 : f j = 255 := Ats.head hj
      refine lp_out (bdy_pcs size M) (by omega) ?_
      rw [pk_lt (by omega), h255]
      unfold pcb
      rw [if_pos rfl]
      unfold adv
      rw [if_pos (by omega)]
    by_cases hs0 : s.size = 0
    · rw [if_pos hs0] at ht hn hz ⊢
      rw [hend _ _ ht (by simp at hn; omega)]
      have : s = ⟨#[]⟩ := dba_ext hs0 fun j hj => by omega
      rw [this]
      rfl
    · rw [if_neg hs0] at ht hn hz ⊢
      have h255 : ([255] : List UInt8).length = 1 := rfl
      rw [h255] at hn hz ⊢
      obtain ⟨h1, x, h2, h3⟩ := pce_back (M := M) (by omega) hs ht.left (n := n) (by omega) (size := size) (by omega) hr
      have hp : pk (pcb size M ⟨#[]⟩) f n (i + 1) = .ok (.inl (⟨#[]⟩ ++ s)) (i + 1 + (pcP M s).length) := by
        rw [pk_lt (by have := hdP_len M s.size; unfold pcP at hn; rw [List.length_append] at hn; omega)]
        unfold pcb
        rw [if_neg (by omega), if_pos (by omega), bind_ok h1]
        rfl
      rw [lp_in (bdy_pcs size M) (by omega) hp]
      rw [hend _ _ ht.right (by omega)]
      have : (⟨#[]⟩ : ByteArray) ++ s = s := ByteArray.empty_append
      rw [this]
      congr 1
      omega

/-! items -/
structure Bks (size : Nat) (o : Bool) (t : VT) : Prop where
  go : ∀ {d c : Nat} {f : Nat → Nat} {n i : Nat}, Ats f i (itB o t) → i + (itB o t).length ≤ n → i + (itB o t).length ≤ size → dep t ≤ d → c + cnt t ≤ 65536 → rdI size d c f n i = .ok (t, c + cnt t) (i + (itB o t).length)
theorem rdI_un (size d c : Nat) : Und size (rdI size d c) := und_rdI size d c
/-- what is read at a place begins with no end -/
theorem rdI_first {d c : Nat} {a : Vc} (hi : i ≤ n) (h : rdI size d c f n i = .ok a k) : i < n ∧ f i ≠ 255 ∧ i < k := by
  have hlt := (rdI_un size d c).lt hi h
  have hkn := ((rdI_un size d c).dt.ok hi h).2.1
  refine ⟨by omega, fun hb => ?_, hlt⟩
  cases d with
  | zero => rw [show rdI size 0 c f n i = .no i 4 from itm_bad (by omega) hb] at h; cases h
  | succ d => rw [show rdI size (d + 1) c f n i = .no i 4 from itm_bad (by omega) hb] at h; cases h
/-- so many items that are written are read -/
theorem cts_back {o : Bool} {d : Nat} : ∀ (l : List VT), (∀ t, t ∈ l → Bks size o t) → ∀ {z : List VT} {c i : Nat}, Ats f i (itL o l) → i + (itL o l).length ≤ n → i + (itL o l).length ≤ size → depL l ≤ d → c + cntL l ≤ 65536 →
    cts (rdI size d) l.length (z, c) f n i = .ok (z ++ l, c + cntL l) (i + (itL o l).length) ∧ l.length ≤ (itL o l).length
  | [], _, z, c, i, _, _, _, _, _ => ⟨by rw [List.append_nil]; rfl, Nat.le_refl _⟩
  | t :: r, hB, z, c, i, ha, hn, hz, hd, hc => by
    have e1 : itL o (t :: r) = itB o t ++ itL o r := rfl
    have e2 : depL (t :: r) = max (dep t) (depL r) := rfl
    have e3 : cntL (t :: r) = cnt t + cntL r := rfl
    rw [e1] at ha hn hz ⊢
    rw [List.length_append] at hn hz ⊢
    rw [e2] at hd
    rw [e3] at hc ⊢
    have h1 := (hB t (by simp)).go (d := d) (c := c) ha.left (n := n) (by omega) (by omega) (by omega) (by omega)
    have h2 := rdI_first (by omega) h1
    obtain ⟨h3, h4⟩ := cts_back r (fun x hx => hB x (by simp [hx])) (d := d) (z := z ++ [t]) (c := c + cnt t) ha.right (by omega) (by omega) (by omega) (by omega)
    refine ⟨?_, by rw [List.length_cons]; omega⟩
    show ((rdI size d c).bind fun a => cts (rdI size d) r.length (z ++ [a.1], a.2)) f n i = _
    rw [bind_ok h1, h3, List.append_assoc, Nat.add_assoc, Nat.add_assoc]
    rfl
/-- likewise what is open -/
theorem lps_back {o : Bool} {d w : Nat} (hw : 1 ≤ w) : ∀ (m : Nat) (l : List VT), l.length = m * w → (∀ t, t ∈ l → Bks size o t) → ∀ {z : List VT} {c i : Nat}, Ats f i (itL o l ++ [255]) → i + (itL o l).length + 1 ≤ n → i + (itL o l).length ≤ size → depL l ≤ d → c + cntL l ≤ 65536 →
    lp (fun z => pk (lsb (rdI size d) w z)) (z, c) f n i = .ok (z ++ l, c + cntL l) (i + (itL o l).length + 1)
  | 0, l, hl, _, z, c, i, ha, hn, _, _, _ => by
    have : l = [] := List.eq_nil_of_length_eq_zero (by omega)
    subst this
    have h255 : f i = 255 := Ats.head (show Ats f i [255] from ha)
    rw [List.append_nil]
    refine lp_out (bdy_lst (rdI_un size d) hw) (by omega) ?_
    rw [pk_lt (by omega), h255]
    unfold lsb
    rw [if_pos rfl]
    unfold adv
    rw [if_pos (by omega)]
    rfl
  | m + 1, l, hl, hB, z, c, i, ha, hn, hz, hd, hc => by
    rw [Nat.succ_mul] at hl
    have hs : l = l.take w ++ l.drop w := (List.take_append_drop w l).symm
    have hlw : (l.take w).length = w := by rw [List.length_take]; omega
    have e1 : itL o l = itL o (l.take w) ++ itL o (l.drop w) := by rw [← itL_app, ← hs]
    have e2 : depL l = max (depL (l.take w)) (depL (l.drop w)) := by rw [← depL_app, ← hs]
    have e3 : cntL l = cntL (l.take w) + cntL (l.drop w) := by rw [← cntL_app, ← hs]
    rw [e1, List.append_assoc] at ha
    rw [e1, List.length_append] at hn hz
    rw [e2] at hd
    rw [e3] at hc
    obtain ⟨h1, h4⟩ := cts_back (d := d) (l.take w) (fun t ht => hB t (List.mem_of_mem_take ht)) (z := z) (c := c) ha.left (n := n) (size := size) (by omega) (by omega) (by omega) (by omega)
    rw [hlw] at h1 h4
    have hne : f i ≠ 255 := by
      -- the first of them begins with no end
      cases hx : l.take w with
      | nil => rw [hx] at hlw; simp at hlw; omega
      | cons t r =>
        have ha2 := ha.left
        rw [hx] at ha2
        have e4 : itL o (t :: r) = itB o t ++ itL o r := rfl
        have e5 : (itL o (l.take w)).length = (itB o t).length + (itL o r).length := by rw [hx, e4, List.length_append]
        have e6 : depL (l.take w) = max (dep t) (depL r) := by rw [hx]; rfl
        have e7 : cntL (l.take w) = cnt t + cntL r := by rw [hx]; rfl
        rw [e4] at ha2
        exact (rdI_first (by omega) ((hB t (List.mem_of_mem_take (by rw [hx]; simp))).go (d := d) (c := c) ha2.left (n := n) (by omega) (by omega) (by omega) (by omega))).2.1
    have h5 := lps_back hw m (l.drop w) (by rw [List.length_drop]; omega) (fun t ht => hB t (List.mem_of_mem_drop ht)) (d := d) (z := z ++ l.take w) (c := c + cntL (l.take w)) ha.right (by omega) (by omega) (by omega) (by omega)
    have hp : pk (lsb (rdI size d) w (z, c)) f n i = .ok (.inl (z ++ l.take w, c + cntL (l.take w))) (i + (itL o (l.take w)).length) := by
      rw [pk_lt (by omega)]
      unfold lsb
      rw [if_neg hne, bind_ok h1]
      rfl
    rw [lp_in (bdy_lst (rdI_un size d) hw) (by omega) hp, h5, List.append_assoc, ← hs, e3, e1, List.length_append]
    congr 1
    · rw [Nat.add_assoc]
    · omega
end
end Go.Proofs.YtpcladdipgchbaaGreatDoor.nn
namespace Go.Proofs.YtpcladdipgchbaaGreatDoor.nn

section
variable {f g : Nat → Nat} {m n i k q e c : Nat} {size : Nat}
/-- the reader of what is within, where d levels more may be open -/
def sub (size : Nat) : Nat → Nat → Prs Vc | 0 => rdz size | d + 1 => rdI size d
theorem rdI_itm (size d c : Nat) : rdI size d c = itm size d (sub size d) c := by cases d <;> rfl
theorem rdI_yes {d : Nat} {s : Hdr} (h : hdr f n i = .ok s k) (hb : f i ≠ 255) : rdI size d c f n i = bod size d (sub size d) c s f n k := by
  rw [rdI_itm, itm_at (hdr_ok h).2.2.2.2.2.2.1 hb, bind_ok h]
theorem gate_yes {b : Bool} {p : Nat} (h : b = false) : gate b p f n i = .ok () i := by
  unfold gate
  rw [if_neg (by simp [h])]
theorem lef_at {p : Nat} {t : VT} (hc : c + cnt t ≤ 65536) (hl : t.l = []) : lef c p t f n i = .ok (t, c + cnt t) i := by
  have h1 := cnt_mk t
  rw [hl] at h1
  have h2 : cnt t = 1 := h1
  rw [lef_yes (by omega), h2]
theorem ext_no {t : VT} (h : ext t = false) : t.k ≠ 14 ∧ extL t.l = false := by
  rw [ext_mk, Bool.or_eq_false_iff] at h
  exact ⟨of_decide_eq_false h.1, h.2⟩
theorem extL_mem {l : List VT} (h : extL l = false) : ∀ t, t ∈ l → ext t = false := by
  induction l with
  | nil => intro t ht; cases ht
  | cons x r ih =>
    have h' : (ext x || extL r) = false := h
    rw [Bool.or_eq_false_iff] at h'
    intro t ht
    rcases List.mem_cons.1 ht with rfl | ht
    · exact h'.1
    · exact ih h'.2 t ht
theorem rgtL_mem {l : List VT} (h : rgtL l = true) : ∀ t, t ∈ l → rgt t = true := by
  induction l with
  | nil => intro t ht; cases ht
  | cons x r ih =>
    have h' : (rgt x && rgtL r) = true := h
    rw [Bool.and_eq_true] at h'
    intro t ht
    rcases List.mem_cons.1 ht with rfl | ht
    · exact h'.1
    · exact ih h'.2 t ht
theorem wfL_mem {l : List VT} (h : wfL l) : ∀ t, t ∈ l → wfT t := by
  induction l with
  | nil => intro t ht; cases ht
  | cons x r ih =>
    intro t ht
    rcases List.mem_cons.1 ht with rfl | ht
    · exact h.1
    · exact ih h.2 t ht
theorem cnt_mem {l : List VT} : ∀ t, t ∈ l → cnt t ≤ cntL l := by
  induction l with
  | nil => intro t ht; cases ht
  | cons x r ih =>
    intro t ht
    have h1 : cntL (x :: r) = cnt x + cntL r := rfl
    rcases List.mem_cons.1 ht with rfl | ht
    · omega
    · have := ih t ht; omega
theorem sE_emp9 {s : ByteArray} (h : s.toList.isEmpty = true) : s = ⟨#[]⟩ := by
  rw [ByteArray.toList_eq] at h
  refine ByteArray.ext ?_
  have h2 : s.data.toList = [] := List.isEmpty_iff.1 h
  exact Array.toList_eq_nil_iff.1 h2
theorem smxL_mem {l : List VT} : ∀ t, t ∈ l → smx t ≤ smxL l := by
  induction l with
  | nil => intro t ht; cases ht
  | cons x r ih =>
    intro t ht
    have h1 : smxL (x :: r) = max (smx x) (smxL r) := rfl
    rcases List.mem_cons.1 ht with rfl | ht
    · omega
    · have := ih t ht; omega
/-- an item that begins as bytes do is bytes -/
theorem rdI_nine {d : Nat} {x : VT} {c' k' : Nat} {b : ByteArray} (hi : i < n) (h2 : f i / 32 = 2) (h : rdI size d c f n i = .ok (x, c') k) (hb : byi size f n i = .ok b k') : x.k = 9 ∧ x.s = b := by
  rw [rdI_itm, itm_at hi (by omega)] at h
  obtain ⟨s, j, e1, e2⟩ := bind_to h
  unfold byi at hb
  rw [bind_ok e1] at hb
  have hM := (hdr_ok e1).2.2.2.1
  unfold bod at e2
  rw [if_neg (by omega), if_pos (by omega), bind_ok hb, if_pos (by omega)] at e2
  obtain ⟨_, ht, _⟩ := lef_ok e2
  injection ht with t1 t2
  subst t1
  exact ⟨rfl, rfl⟩
/-- a list or a map that is written is read -/
theorem many_back {o : Bool} {M : Nat} {l : List VT} {kk : Int} (hM : (M = 4 ∧ kk = 11) ∨ (M = 5 ∧ kk = 12 ∧ l.length % 2 = 0)) (hB : ∀ t, t ∈ l → Bks size o t) {d c : Nat}
    (ha : Ats f i (hdO o M (l.length / (M - 3)) ++ (itL o l ++ enO o))) (hn : i + (hdO o M (l.length / (M - 3)) ++ (itL o l ++ enO o)).length ≤ n) (hz : i + (hdO o M (l.length / (M - 3)) ++ (itL o l ++ enO o)).length ≤ size) (hd : depL l + 1 ≤ d) (hc : c + (cntL l + 1) ≤ 65536) :
    rdI size d c f n i = .ok (.mk kk false 0 ⟨#[]⟩ l, c + (cntL l + 1)) (i + (hdO o M (l.length / (M - 3)) ++ (itL o l ++ enO o)).length) := by
  obtain ⟨d, rfl⟩ : ∃ e, d = e + 1 := ⟨d - 1, by omega⟩
  have hw : l.length / (M - 3) * (M - 3) = l.length := by
    rcases hM with ⟨rfl, _⟩ | ⟨rfl, _, h⟩
    · show l.length / 1 * 1 = l.length
      omega
    · show l.length / 2 * 2 = l.length
      omega
  obtain ⟨v, hv⟩ : ∃ v, l.length / (M - 3) = v := ⟨_, rfl⟩
  rw [hv] at ha hn hz hw ⊢
  have hl7 := len_cntL l
  have hv2 : v ≤ l.length := by rw [← hv]; exact Nat.div_le_self _ _
  -- what is written behind the head, and the head
  have hK : (if M = 4 then (11 : Int) else 12) = kk := by rcases hM with ⟨rfl, rfl⟩ | ⟨rfl, rfl, _⟩ <;> rfl
  have key : ∀ (s : Hdr) (j j' : Nat), hdr f n i = .ok s j → f i ≠ 255 → s.M = M → lst size (rdI size d) (M - 3) (c + 1) s f n j = .ok (l, c + 1 + cntL l) j' → rdI size (d + 1) c f n i = .ok (.mk kk false 0 ⟨#[]⟩ l, c + (cntL l + 1)) j' := fun s j j' h1 h2 h3 h4 => by
    rw [rdI_yes h1 h2]
    unfold bod
    rw [if_neg (by omega), if_neg (by omega), if_pos (by omega), bind_ok (gate_yes (decide_eq_false (by omega))), h3]
    show ((lst size (rdI size d) (M - 3) (c + 1) s).bind _) f n j = _
    rw [bind_ok h4, hK]
    show Rs.ok _ _ = _
    rw [Nat.add_assoc c 1, Nat.add_comm 1]
  cases o with
  | false =>
    have e1 : hdO false M v = hdP M v := rfl
    have e2 : itL false l ++ enO false = itL false l := List.append_nil _
    rw [e1, e2] at ha hn hz ⊢
    rw [List.length_append] at hn hz ⊢
    obtain ⟨x, h1, h2, _, _, _, h3⟩ := hdr_back (M := M) (v := v) (.inl (by omega)) (by omega) ha.left (n := n) (by omega)
    obtain ⟨h4, h5⟩ := cts_back (d := d) l hB (z := []) (c := c + 1) ha.right (n := n) (size := size) (by omega) (by omega) (by omega) (by omega)
    refine key _ _ _ h1 (by omega) rfl ?_
    unfold lst
    rw [if_neg (by show ¬ x = 31; omega), bind_ok (bnd_yes (by
      show v ≤ (size - (i + (hdP M v).length)) / (M - 3)
      rw [Nat.le_div_iff_mul_le (by omega), hw]
      omega))]
    show cts (rdI size d) (v * (M - 3)) ([], c + 1) f n _ = _
    rw [hw, h4, List.nil_append, Nat.add_assoc i]
  | true =>
    have e1 : hdO true M v = [opP M] := rfl
    have e2 : enO true = [255] := rfl
    rw [e1, e2] at ha hn hz ⊢
    simp only [List.length_append, List.length_cons, List.length_nil] at hn hz ⊢
    have h0 : f i = M * 32 + 31 := by
      rw [Ats.head ha]
      show (UInt8.ofNat (M * 32 + 31)).toNat = _
      rw [UInt8.toNat_ofNat']
      omega
    refine key _ _ _ (hdr_open (by omega) h0 (by omega)) (by omega) rfl ?_
    unfold lst
    rw [if_pos rfl]
    have := lps_back (f := f) (o := true) (d := d) (w := M - 3) (by omega) v l hw.symm hB (z := []) (c := c + 1) (i := i + 1) ha.right (n := n) (size := size) (by omega) (by omega) (by omega) (by omega)
    rw [this, List.nil_append]
    congr 1
    omega
theorem back_any (size : Nat) (o : Bool) : ∀ (N : Nat) (t : VT), cnt t ≤ N → rgt t = true → ext t = false → wfT t → smx t < 18446744073709551616 → Bks size o t
  | 0, t, h, _, _, _, _ => by have := cnt_mk t; omega
  | N + 1, .mk kk g v s l, hN, hr, hx, hwf, hsm => by
    constructor
    intro d c f n i ha hn hz hd hc
    have hcm : cnt (.mk kk g v s l) = cntL l + 1 := cnt_mk _
    obtain ⟨h1, h2, h3⟩ := rgt_parts hr
    have h2' : lf kk = true → l = [] := h2
    have h3' : rgtL l = true := h3
    obtain ⟨hx1, hx2⟩ := ext_no hx
    have hx1' : kk ≠ 14 := hx1
    have hx2' : extL l = false := hx2
    have hk := oneB_k h1
    have hk' : 0 ≤ kk ∧ kk ≤ 14 := hk
    have hwf2 := (wfT_mk _).1 hwf
    have hv : v < 18446744073709551616 := hwf2.2.2.1
    have hwl : wfL l := hwf2.2.2.2
    have hsm2 : smx (.mk kk g v s l) = max s.size (smxL l) := smx_mk _
    have hss : s.size < 18446744073709551616 := by omega
    have hB : ∀ t, t ∈ l → Bks size o t := fun t ht => back_any size o N t (by have := cnt_mem t ht; omega) (rgtL_mem h3' t ht) (extL_mem hx2' t ht) (wfL_mem hwl t ht) (by have := smxL_mem t ht; omega)
    have hi : itB o (.mk kk g v s l) = itH o kk g v s l.length (itL o l) := rfl
    rw [hi] at ha hn hz ⊢
    -- a value with nothing in it, whose head is all there is
    have leaf : ∀ {M w : Nat} (s0 : ByteArray), s = s0 → l = [] → M ≤ 1 ∨ M = 7 → itH o kk g v s l.length (itL o l) = hdP M w → (M ≤ 6 ∨ (M = 7 ∧ (w ≤ 23 ∨ (32 ≤ w ∧ w ≤ 255)))) → w < 18446744073709551616 → (∀ x, x ≤ 27 → (w < 24 → x = w) → (24 ≤ w → 24 ≤ x) → (w < 256 → x ≤ 24) → (if M ≤ 1 then (.mk 4 (decide (M = 1)) w ⟨#[]⟩ [] : VT) else oth ⟨i, M, x, w⟩) = .mk kk g v s l) →
        rdI size d c f n i = .ok (.mk kk g v s l, c + cnt (.mk kk g v s l)) (i + (itH o kk g v s l.length (itL o l)).length) := fun {M w} s0 _ hl hM0 he hM hw hv2 => by
      rw [he] at ha hn ⊢
      obtain ⟨x, q1, q2, q3, q4, q5, q6⟩ := hdr_back hM hw ha hn
      have e := hv2 x q2 q3 q4 q5
      have hle : ∀ p, lef c p (.mk kk g v s l) f n (i + (hdP M w).length) = .ok (.mk kk g v s l, c + cnt (.mk kk g v s l)) (i + (hdP M w).length) := fun p => lef_at hc hl
      rw [rdI_yes q1 (by omega)]
      unfold bod
      by_cases h1 : M ≤ 1
      · rw [if_pos h1] at e
        rw [if_pos (show (⟨i, M, x, w⟩ : Hdr).M ≤ 1 from h1)]
        show lef c i (.mk 4 (decide (M = 1)) w ⟨#[]⟩ []) f n _ = _
        rw [e]
        exact hle i
      · rw [if_neg h1] at e
        rw [if_neg (show ¬ (⟨i, M, x, w⟩ : Hdr).M ≤ 1 from h1), if_neg (by show ¬ M ≤ 3; omega), if_neg (by show ¬ M ≤ 5; omega), if_neg (by show ¬ M = 6; omega), e]
        exact hle i
    have hcases : kk = 0 ∨ kk = 1 ∨ kk = 2 ∨ kk = 3 ∨ kk = 4 ∨ kk = 5 ∨ kk = 6 ∨ kk = 7 ∨ kk = 8 ∨ kk = 9 ∨ kk = 10 ∨ kk = 11 ∨ kk = 12 ∨ kk = 13 := by omega
    rcases hcases with rfl | rfl | rfl | rfl | rfl | rfl | rfl | rfl | rfl | rfl | rfl | rfl | rfl | rfl
    · -- null
      have hl := h2' rfl
      subst hl
      have h1' : (s.toList.isEmpty && ((v : Int) == 0) && !g) = true := h1
      simp only [Bool.and_eq_true, Bool.not_eq_true', beq_iff_eq] at h1'
      obtain ⟨⟨a1, a2⟩, rfl⟩ := h1'
      obtain rfl := sE_emp9 a1
      obtain rfl : v = 0 := by omega
      refine leaf (M := 7) (w := 22) _ rfl rfl (by omega) rfl (by omega) (by omega) fun x _ q _ _ => ?_
      rw [if_neg (by omega), q (by omega)]
      rfl
    · -- bool
      have hl := h2' rfl
      subst hl
      have h1' : (s.toList.isEmpty && !g && decide (v ≤ 1)) = true := h1
      simp only [Bool.and_eq_true, Bool.not_eq_true', decide_eq_true_eq] at h1'
      obtain ⟨⟨a1, rfl⟩, a2⟩ := h1'
      obtain rfl := sE_emp9 a1
      refine leaf (M := 7) (w := 20 + v) _ rfl rfl (by omega) rfl (by omega) (by omega) fun x _ q _ _ => ?_
      rw [if_neg (by omega), q (by omega)]
      unfold oth
      rw [if_pos (by show 20 + v = 20 ∨ 20 + v = 21; omega)]
      show VT.mk 1 false (20 + v - 20) _ _ = _
      rw [Nat.add_sub_cancel_left]
    · -- undefined
      have hl := h2' rfl
      subst hl
      have h1' : (s.toList.isEmpty && ((v : Int) == 0) && !g) = true := h1
      simp only [Bool.and_eq_true, Bool.not_eq_true', beq_iff_eq] at h1'
      obtain ⟨⟨a1, a2⟩, rfl⟩ := h1'
      obtain rfl := sE_emp9 a1
      obtain rfl : v = 0 := by omega
      refine leaf (M := 7) (w := 23) _ rfl rfl (by omega) rfl (by omega) (by omega) fun x _ q _ _ => ?_
      rw [if_neg (by omega), q (by omega)]
      rfl
    · -- simple
      have hl := h2' rfl
      subst hl
      have h1' : (s.toList.isEmpty && !g && decide (v ≤ 19 ∨ 32 ≤ v ∧ v ≤ 255)) = true := h1
      simp only [Bool.and_eq_true, Bool.not_eq_true', decide_eq_true_eq] at h1'
      obtain ⟨⟨a1, rfl⟩, a2⟩ := h1'
      obtain rfl := sE_emp9 a1
      refine leaf (M := 7) (w := v) _ rfl rfl (by omega) rfl (by omega) (by omega) fun x hx27 q q2 q3 => ?_
      have hxx : x = v ∧ v ≤ 19 ∨ x = 24 := by omega
      rw [if_neg (by omega)]
      unfold oth
      rw [if_neg (by show ¬ (x = 20 ∨ x = 21); omega), if_neg (by show ¬ x = 22; omega), if_neg (by show ¬ x = 23; omega), if_neg (by show ¬ x = 25; omega), if_neg (by show ¬ x = 26; omega), if_neg (by show ¬ x = 27; omega)]
    · -- int
      have hl := h2' rfl
      subst hl
      have h1' : s.toList.isEmpty = true := h1
      obtain rfl := sE_emp9 h1'
      refine leaf (M := ng g) (w := v) _ rfl rfl (by unfold ng; split <;> omega) rfl (by unfold ng; split <;> omega) hv fun x _ _ _ _ => ?_
      cases g <;> rfl
    · -- big
      have hl := h2' rfl
      subst hl
      have h1' : (((v : Int) == 0) && big s) = true := h1
      simp only [Bool.and_eq_true, beq_iff_eq] at h1'
      obtain ⟨a1, a2⟩ := h1'
      obtain rfl : v = 0 := by omega
      have he : itH o 5 g 0 s ([] : List VT).length (itL o []) = hdP 6 (2 + ng g) ++ txP o 2 s := rfl
      rw [he] at ha hn hz ⊢
      rw [List.length_append] at hn hz ⊢
      have hg : ng g ≤ 1 := by unfold ng; split <;> omega
      obtain ⟨x, q1, q2, _, _, _, q6⟩ := hdr_back (M := 6) (v := 2 + ng g) (.inl (by omega)) (by omega) ha.left (n := n) (by omega)
      obtain ⟨hd2, j, b1, b2, b3, b4, b5, b6, b7⟩ := byi_back (M := 2) (.inl rfl) hss ha.right (n := n) (size := size) (by omega) (by omega) (by omega)
      have hd3 : dep (.mk 5 g 0 s []) = 1 := rfl
      have hby : byi size f n (i + (hdP 6 (2 + ng g)).length) = .ok s (i + (hdP 6 (2 + ng g)).length + (txP o 2 s).length) := by unfold byi; rw [bind_ok b1]; exact b4
      rw [rdI_yes q1 (by omega)]
      unfold bod
      rw [if_neg (by show ¬ 6 ≤ 1; omega), if_neg (by show ¬ 6 ≤ 3; omega), if_neg (by show ¬ 6 ≤ 5; omega), if_pos rfl, bind_ok (gate_yes (decide_eq_false (by omega)))]
      unfold tgd
      rw [if_pos (by show 2 + ng g = 2 ∨ 2 + ng g = 3; omega), bgo_big ⟨b7, b5⟩ hby a2, Nat.add_assoc]
      cases g <;> rfl
    · -- a float of 16 bits
      have hl := h2' rfl
      subst hl
      have h1' : (s.toList.isEmpty && !g && decide (v < 65536)) = true := h1
      simp only [Bool.and_eq_true, Bool.not_eq_true', decide_eq_true_eq] at h1'
      obtain ⟨⟨a1, rfl⟩, a2⟩ := h1'
      obtain rfl := sE_emp9 a1
      have he : itH o 6 false v ⟨#[]⟩ ([] : List VT).length (itL o []) = flP (224 + 25) v 2 := rfl
      rw [he] at ha hn ⊢
      obtain ⟨q1, q2⟩ := hdr_fl (.inl ⟨rfl, rfl⟩) (by omega) ha hn
      rw [rdI_yes q1 q2]
      exact lef_at hc rfl
    · have hl := h2' rfl
      subst hl
      have h1' : (s.toList.isEmpty && !g && decide (v < 4294967296)) = true := h1
      simp only [Bool.and_eq_true, Bool.not_eq_true', decide_eq_true_eq] at h1'
      obtain ⟨⟨a1, rfl⟩, a2⟩ := h1'
      obtain rfl := sE_emp9 a1
      have he : itH o 7 false v ⟨#[]⟩ ([] : List VT).length (itL o []) = flP (224 + 26) v 4 := rfl
      rw [he] at ha hn ⊢
      obtain ⟨q1, q2⟩ := hdr_fl (.inr (.inl ⟨rfl, rfl⟩)) (by omega) ha hn
      rw [rdI_yes q1 q2]
      exact lef_at hc rfl
    · have hl := h2' rfl
      subst hl
      have h1' : (s.toList.isEmpty && !g) = true := h1
      simp only [Bool.and_eq_true, Bool.not_eq_true'] at h1'
      obtain ⟨a1, rfl⟩ := h1'
      obtain rfl := sE_emp9 a1
      have he : itH o 8 false v ⟨#[]⟩ ([] : List VT).length (itL o []) = flP (224 + 27) v 8 := rfl
      rw [he] at ha hn ⊢
      obtain ⟨q1, q2⟩ := hdr_fl (.inr (.inr ⟨rfl, rfl⟩)) (by omega) ha hn
      rw [rdI_yes q1 q2]
      exact lef_at hc rfl
    · -- bytes
      have hl := h2' rfl
      subst hl
      have h1' : (((v : Int) == 0) && !g) = true := h1
      simp only [Bool.and_eq_true, Bool.not_eq_true', beq_iff_eq] at h1'
      obtain ⟨a1, rfl⟩ := h1'
      obtain rfl : v = 0 := by omega
      have he : itH o 9 false 0 s ([] : List VT).length (itL o []) = txP o 2 s := rfl
      rw [he] at ha hn hz ⊢
      obtain ⟨hd2, j, b1, b2, b3, b4, b5, b6, b7⟩ := byi_back (M := 2) (.inl rfl) hss ha hn hz (by omega)
      rw [rdI_yes b1 b6]
      unfold bod
      rw [if_neg (by omega), if_pos (by omega), bind_ok b4, b2, b3]
      exact lef_at hc rfl
    · -- a text
      have hl := h2' rfl
      subst hl
      have h1' : (((v : Int) == 0) && !g && decide (ckE (bt s) s.size = 0)) = true := h1
      simp only [Bool.and_eq_true, Bool.not_eq_true', beq_iff_eq, decide_eq_true_eq] at h1'
      obtain ⟨⟨a1, rfl⟩, a2⟩ := h1'
      obtain rfl : v = 0 := by omega
      have he : itH o 10 false 0 s ([] : List VT).length (itL o []) = txP o 3 s := rfl
      rw [he] at ha hn hz ⊢
      obtain ⟨hd2, j, b1, b2, b3, b4, b5, b6, b7⟩ := byi_back (M := 3) (.inr rfl) hss ha hn hz (fun _ => a2)
      rw [rdI_yes b1 b6]
      unfold bod
      rw [if_neg (by omega), if_pos (by omega), bind_ok b4, b2, b3]
      exact lef_at hc rfl
    · -- a list
      have h1' : (s.toList.isEmpty && ((v : Int) == 0) && !g) = true := h1
      simp only [Bool.and_eq_true, Bool.not_eq_true', beq_iff_eq] at h1'
      obtain ⟨⟨a1, a2⟩, rfl⟩ := h1'
      obtain rfl := sE_emp9 a1
      obtain rfl : v = 0 := by omega
      have he : itH o 11 false 0 ⟨#[]⟩ l.length (itL o l) = hdO o 4 (l.length / (4 - 3)) ++ (itL o l ++ enO o) := by
        rw [show 4 - 3 = 1 from rfl, Nat.div_one]
        rfl
      rw [he] at ha hn hz ⊢
      have hd2 : dep (.mk 11 false 0 ⟨#[]⟩ l) = depL l + 1 := rfl
      rw [hcm] at hc ⊢
      exact many_back (M := 4) (.inl ⟨rfl, rfl⟩) hB ha hn hz (by omega) hc
    · -- a map
      have h1' : (s.toList.isEmpty && ((v : Int) == 0) && !g && decide (l.length % 2 = 0)) = true := h1
      simp only [Bool.and_eq_true, Bool.not_eq_true', beq_iff_eq, decide_eq_true_eq] at h1'
      obtain ⟨⟨⟨a1, a2⟩, rfl⟩, a3⟩ := h1'
      obtain rfl := sE_emp9 a1
      obtain rfl : v = 0 := by omega
      have he : itH o 12 false 0 ⟨#[]⟩ l.length (itL o l) = hdO o 5 (l.length / (5 - 3)) ++ (itL o l ++ enO o) := rfl
      rw [he] at ha hn hz ⊢
      have hd2 : dep (.mk 12 false 0 ⟨#[]⟩ l) = depL l + 1 := rfl
      rw [hcm] at hc ⊢
      exact many_back (M := 5) (.inr ⟨rfl, rfl, a3⟩) hB ha hn hz (by omega) hc
    · -- a tag
      have h1' : (s.toList.isEmpty && !g && decide (l.length = 1) && !guise v l) = true := h1
      simp only [Bool.and_eq_true, Bool.not_eq_true', decide_eq_true_eq] at h1'
      obtain ⟨⟨⟨a1, rfl⟩, a3⟩, a4⟩ := h1'
      obtain rfl := sE_emp9 a1
      match l, a3, a4, hB, hcm, h3' with
      | [x], _, a4, hB, hcm, h3' =>
        have he : itH o 13 false v ⟨#[]⟩ [x].length (itL o [x]) = hdP 6 v ++ itB o x := by
          show hdP 6 v ++ (itB o x ++ []) = _
          rw [List.append_nil]
        rw [he] at ha hn hz ⊢
        rw [List.length_append] at hn hz ⊢
        have hd2 : dep (.mk 13 false v ⟨#[]⟩ [x]) = max (dep x) 0 + 1 := rfl
        have hc2 : cntL [x] = cnt x := rfl
        rw [hcm, hc2] at hc ⊢
        obtain ⟨d, rfl⟩ : ∃ e, d = e + 1 := ⟨d - 1, by omega⟩
        obtain ⟨y, q1, q2, _, _, _, q6⟩ := hdr_back (M := 6) (v := v) (.inl (by omega)) hv ha.left (n := n) (by omega)
        have hT := (hB x (by simp)).go (d := d) (c := c + 1) ha.right (n := n) (by omega) (by omega) (by omega) (by omega)
        have hT2 : tgT (rdI size d) c ⟨i, 6, y, v⟩ f n (i + (hdP 6 v).length) = .ok (.mk 13 false v ⟨#[]⟩ [x], c + (cnt x + 1)) (i + ((hdP 6 v).length + (itB o x).length)) := by
          unfold tgT
          rw [bind_ok hT, ← Nat.add_assoc i, show c + (cnt x + 1) = c + 1 + cnt x by omega]
          rfl
        rw [rdI_yes q1 (by omega)]
        unfold bod
        rw [if_neg (by show ¬ 6 ≤ 1; omega), if_neg (by show ¬ 6 ≤ 3; omega), if_neg (by show ¬ 6 ≤ 5; omega), if_pos rfl, bind_ok (gate_yes (decide_eq_false (by omega)))]
        unfold tgd
        show (if v = 2 ∨ v = 3 then bgo size _ (tgT (rdI size d) c ⟨i, 6, y, v⟩) else tgT (rdI size d) c ⟨i, 6, y, v⟩) f n (i + (hdP 6 v).length) = _
        by_cases h23 : v = 2 ∨ v = 3
        · rw [if_pos h23, bgo_not]
          · exact hT2
          · intro hlt hf2 b k hby
            -- what stands there is read as bytes: they are no great number's
            have hu := (rdI_un size d (c + 1)).yes hlt hf2 hby
            cases hbb : big b with
            | false => rfl
            | true =>
              exfalso
              have a5 : (decide (v = 2 ∨ v = 3) && (decide (x.k = 9) && big x.s)) = false := a4
              rw [decide_eq_true h23, Bool.true_and] at a5
              -- an item whose first byte is of bytes is bytes
              have h9 := rdI_nine hlt hf2 hT hby
              rw [decide_eq_true h9.1, h9.2, hbb] at a5
              cases a5
        · rw [if_neg h23]
          exact hT2
end
end Go.Proofs.YtpcladdipgchbaaGreatDoor.nn
namespace Go.Proofs.YtpcladdipgchbaaGreatDoor.nn

section
variable {f g : Nat → Nat} {m n i k q e c d : Nat} {size : Nat}
theorem rdI_right (hf : ∀ j, j < n → f j < 256) : ∀ d, Prt size d (rdI size d) f n
  | 0 => itm_right hf (fun c => (und_byi size).ret_ _) fun e h => (by cases h)
  | d + 1 => itm_right hf (und_rdI size d) fun e h => by
    obtain rfl : d = e := by omega
    exact rdI_right hf d
theorem dcR_ok {a : Vc} (h : rdI size d 0 f (min n size) 0 = .ok a k) : dcR d size f n = if k < min n size then (emp, k, 4) else if size < n then (emp, k, 8) else (a.1, n, 0) := by unfold dcR; rw [h]
theorem dcR_no (h : rdI size d 0 f (min n size) 0 = .no q e) : dcR d size f n = (emp, q, if e = 3 ∧ size < n then 8 else e) := by unfold dcR; rw [h]
/-- what is written is read -/
theorem dcR_back {o : Bool} {t : VT} (ha : Ats f 0 (itB o t)) (hz : (itB o t).length ≤ size) (hd : dep t ≤ d) (hc : chk t = 0) (hx : ext t = false) (hw : wfT t) (hs : smx t < 18446744073709551616) : dcR d size f (itB o t).length = (t, (itB o t).length, 0) := by
  have h1 := chk_cnt hc
  have hr := h1.2.2
  have h2 := (back_any size o (cnt t) t (Nat.le_refl _) hr hx hw hs).go (d := d) (c := 0) ha (n := (itB o t).length) (by omega) (by omega) hd (by omega)
  have hm : min (itB o t).length size = (itB o t).length := Nat.min_eq_left hz
  rw [dcR_ok (a := (t, 0 + cnt t)) (k := 0 + (itB o t).length) (by rw [hm]; exact h2), if_neg (by omega), if_neg (by omega)]
/-- what is answered -/
theorem dcR_ways (hf : ∀ j, j < n → f j < 256) (d size : Nat) : (∃ t, dcR d size f n = (t, n, 0) ∧ rgt t = true ∧ dep t ≤ d ∧ cnt t ≤ 65536 ∧ ext t = false ∧ wfT t ∧ n ≤ size) ∨ (∃ q e, dcR d size f n = (emp, q, e) ∧ q ≤ n ∧ (e = 3 ∨ e = 4 ∨ e = 8) ∧ (e = 4 → q < n)) := by
  cases h : rdI size d 0 f (min n size) 0 with
  | no q e =>
    refine .inr ⟨q, _, dcR_no h, ?_⟩
    have hu := (rdI_un size d 0).dt
    rcases hu.err (Nat.zero_le _) h with rfl | rfl | rfl
    · have := hu.short (Nat.zero_le _) h
      refine ⟨by omega, ?_, ?_⟩
      · split
        · exact .inr (.inr rfl)
        · exact .inl rfl
      · split
        · intro h; cases h
        · intro h; cases h
    · have := (hu.form (Nat.zero_le _) h).2.1
      refine ⟨by omega, .inr (.inl rfl), fun _ => by omega⟩
    · have := (hu.lim (Nat.zero_le _) h).1
      refine ⟨by omega, .inr (.inr rfl), fun h => (by cases h)⟩
  | ok a k =>
    have hk := ((rdI_un size d 0).dt.ok (Nat.zero_le _) h).2.1
    rw [dcR_ok h]
    by_cases h1 : k < min n size
    · rw [if_pos h1]
      exact .inr ⟨k, 4, rfl, by omega, .inr (.inl rfl), fun _ => by omega⟩
    rw [if_neg h1]
    by_cases h2 : size < n
    · rw [if_pos h2]
      exact .inr ⟨k, 8, rfl, by omega, .inr (.inr rfl), fun h => (by cases h)⟩
    rw [if_neg h2]
    obtain ⟨t, c'⟩ := a
    obtain ⟨r, _, _⟩ := rdI_right (size := size) (f := f) (n := min n size) (fun j hj => hf j (by omega)) d (Nat.zero_le _) h
    have := r.c
    have := r.m
    exact .inl ⟨t, rfl, r.r, r.d, by omega, r.x, r.w, by omega⟩
/-- the first byte that errs: with other bytes behind it -/
theorem dcR_first (h : (dcR d size f n).2 = (q, 4)) (hg : ∀ j, j ≤ q → g j = f j) (hm : q < m) : (dcR d size g m).2 = (q, 4) ∧ q < n := by
  have hu := (rdI_un size d 0).dt
  cases e1 : rdI size d 0 f (min n size) 0 with
  | no r e =>
    rw [dcR_no e1] at h
    injection h with h1 h2
    have h1' : r = q := h1
    subst h1'
    rcases hu.err (Nat.zero_le _) e1 with rfl | rfl | rfl
    · split at h2 <;> cases h2
    · obtain ⟨_, b2, b3⟩ := hu.form (Nat.zero_le _) e1
      rw [dcR_no (b3 g (min m size) hg (by omega))]
      exact ⟨rfl, by omega⟩
    · cases h2
  | ok a k =>
    rw [dcR_ok e1] at h
    by_cases h1 : k < min n size
    · rw [if_pos h1] at h
      injection h with h3 _
      have h3' : k = q := h3
      subst h3'
      obtain ⟨_, _, b3⟩ := hu.ok (Nat.zero_le _) e1
      rw [dcR_ok (b3 g (min m size) (fun j hj => hg j (by omega)) (by omega)), if_pos (by omega)]
      exact ⟨rfl, by omega⟩
    · rw [if_neg h1] at h
      split at h
      · injection h with _ h; cases h
      · injection h with _ h; cases h
/-- all ahead of it is the beginning of an item, or a whole one -/
theorem dcR_cut (h : (dcR d size f n).2 = (q, 4)) : (dcR d size f q).2.1 = q ∧ ((dcR d size f q).2.2 = 0 ∨ (dcR d size f q).2.2 = 3) := by
  have hu := (rdI_un size d 0).dt
  cases e1 : rdI size d 0 f (min n size) 0 with
  | no r e =>
    rw [dcR_no e1] at h
    injection h with h1 h2
    have h1' : r = q := h1
    subst h1'
    rcases hu.err (Nat.zero_le _) e1 with rfl | rfl | rfl
    · split at h2 <;> cases h2
    · obtain ⟨_, b2, _⟩ := hu.form (Nat.zero_le _) e1
      have b4 := hu.cut_form (Nat.zero_le _) e1 (Nat.zero_le r) (Nat.le_refl _)
      have hm : min r size = r := by omega
      rw [dcR_no (n := r) (by rw [hm]; exact b4), if_neg (by omega)]
      exact ⟨rfl, .inr rfl⟩
    · cases h2
  | ok a k =>
    rw [dcR_ok e1] at h
    by_cases h1 : k < min n size
    · rw [if_pos h1] at h
      injection h with h3 _
      have h3' : k = q := h3
      subst h3'
      obtain ⟨_, _, b3⟩ := hu.ok (Nat.zero_le _) e1
      have hm : min k size = k := by omega
      rw [dcR_ok (n := k) (by rw [hm]; exact b3 f k (fun _ _ => rfl) (Nat.le_refl _)), if_neg (by omega), if_neg (by omega)]
      exact ⟨rfl, .inl rfl⟩
    · rw [if_neg h1] at h
      split at h
      · injection h with _ h; cases h
      · injection h with _ h; cases h
/-- what is too short can be gone on with -/
theorem dcR_more (h : (dcR d size f n).2.2 = 3) (hn : n < size) : ∃ c, c ∈ more6 ∧ ∀ g : Nat → Nat, (∀ j, j < n → g j = f j) → g n = c → (dcR d size g (n + 1)).2.2 ≠ 4 := by
  have hu := (rdI_un size d 0).dt
  have hm : min n size = n := by omega
  have hm1 : min (n + 1) size = n + 1 := by omega
  cases e1 : rdI size d 0 f (min n size) 0 with
  | no r e =>
    rw [dcR_no e1, if_neg (by omega)] at h
    have h' : e = 3 := h
    subst h'
    rw [hm] at e1
    obtain ⟨c, hc, hx⟩ := (rdI_un size d 0).ex.go (Nat.zero_le _) e1
    refine ⟨c, hc, fun g hg hn' => ?_⟩
    have h2 := hx g hg hn'
    cases e2 : rdI size d 0 g (n + 1) 0 with
    | no q' e' =>
      rw [dcR_no (n := n + 1) (by rw [hm1]; exact e2), if_neg (by omega)]
      intro h4
      have h4' : e' = 4 := h4
      subst h4'
      exact h2 q' e2
    | ok a k =>
      obtain ⟨_, b2, b3⟩ := hu.ok (Nat.zero_le _) e2
      have hk : ¬ k < n + 1 := fun hk => by
        have := b3 f n (fun j hj => (hg j (by omega)).symm) (by omega)
        rw [e1] at this
        cases this
      rw [dcR_ok (n := n + 1) (by rw [hm1]; exact e2), if_neg (by omega), if_neg (by omega)]
      intro h4
      cases h4
  | ok a k =>
    rw [dcR_ok e1] at h
    split at h
    · cases h
    · split at h <;> cases h
theorem dcR_congr (hg : ∀ j, j < n → g j = f j) : dcR d size g n = dcR d size f n := by
  have := (rdI_un size d 0).dt.congr (f := f) (g := g) (n := min n size) (Nat.zero_le _) (fun j hj => hg j (by omega))
  unfold dcR
  rw [this]
end
end Go.Proofs.YtpcladdipgchbaaGreatDoor.nn
namespace Go.Proofs.YtpcladdipgchbaaGreatDoor.nn

mutual
theorem blk_smx {M : Nat} : ∀ t : VT, smx t ≤ M → blk t ≤ cnt t * (M + 6)
  | .mk _ _ _ s l => fun h => by
    simp only [smx] at h
    have := blkL_smx (M := M) l (by omega)
    simp only [blk, cnt, Nat.succ_mul]
    omega
theorem blkL_smx {M : Nat} : ∀ l : List VT, smxL l ≤ M → blkL l ≤ cntL l * (M + 6) + 1
  | [] => fun _ => by simp [blkL]
  | t :: r => fun h => by
    simp only [smxL] at h
    have h1 := blk_smx (M := M) t (by omega)
    have h2 := blkL_smx (M := M) r (by omega)
    simp only [blkL, cntL, Nat.add_mul]
    omega
end
theorem smxL_app9 (a b : List VT) : smxL (a ++ b) = max (smxL a) (smxL b) := by
  induction a with
  | nil => simp [smxL]
  | cons t r ih => simp only [List.cons_append, smxL, ih]; omega
section
variable {f : Nat → Nat} {n i k c : Nat} {size : Nat}
theorem byt_sz {M v : Nat} {s : ByteArray} (hi : i ≤ n) (h : byt M v f n i = .ok s k) : s.size + i ≤ k := by
  obtain ⟨_, rfl, rfl, _⟩ := byt_ok hi h
  rw [pc_size]
  omega
theorem pce_sz {M : Nat} {s : ByteArray} (h : pce size M f n i = .ok s k) : s.size + i ≤ k := by
  obtain ⟨s', j', d1, d2⟩ := bind_to h
  obtain ⟨u, j2, d3, d4⟩ := bind_to d2
  obtain ⟨_, rfl⟩ := bnd_ok d3
  have h1 := hdr_ok d1
  have h2 := h1.2.2.2.2.2.2.2.1
  have := byt_sz h1.2.2.2.2.2.2.2.2.1 d4
  omega
theorem str_sz {s : Hdr} {b : ByteArray} (hi : i ≤ n) (h : str size s f n i = .ok b k) : b.size + i ≤ k := by
  have h00 : (⟨#[]⟩ : ByteArray).size + i ≤ i := by show 0 + i ≤ i; omega
  unfold str at h
  split at h
  · refine lp_inv6 (bdy_pcs size s.M) (fun a j => a.size + i ≤ j) (fun a j => a.size + i ≤ j) (fun {a j a' l} hj ha h1 => ?_) (fun {a j a' l} hj ha h1 => ?_) hi h00 h
    · rcases pcb_ok h1 with ⟨e, _⟩ | ⟨s', e, h2⟩
      · cases e
      · injection e with e
        subst e
        have := pce_sz h2
        rw [ByteArray.size_append]
        omega
    · rcases pcb_ok h1 with ⟨e, e2⟩ | ⟨s', e, h2⟩
      · injection e with e
        subst e
        omega
      · cases e
  · obtain ⟨u, j2, d3, d4⟩ := bind_to h
    obtain ⟨_, rfl⟩ := bnd_ok d3
    exact byt_sz hi d4
theorem byi_sz {s : ByteArray} (hi : i ≤ n) (h : byi size f n i = .ok s k) : s.size ≤ n := by
  have hk := ((dt_byi size).ok hi h).2.1
  obtain ⟨s', j, e1, e2⟩ := bind_to h
  have := str_sz (hdr_ok e1).2.2.2.2.2.2.2.2.1 e2
  omega
/-- where a reader reads no text of more than n bytes -/
def Psz (r : Nat → Prs Vc) (f : Nat → Nat) (n : Nat) : Prop := ∀ {c i : Nat} {t : VT} {c' k : Nat}, i ≤ n → r c f n i = .ok (t, c') k → smx t ≤ n ∧ k ≤ n
theorem rdz_sz : Psz (rdz size) f n := fun {c i t c' k} hi h => by
  have hk := (((und_byi size).ret_ fun s => ((.mk 9 false 0 s [] : VT), c + 1)).dt.ok hi h).2.1
  refine ⟨?_, hk⟩
  obtain ⟨s, j, e1, e2⟩ := bind_to h
  injection e2 with e2 _
  injection e2 with t1 _
  subst t1
  have := byi_sz hi e1
  show max s.size 0 ≤ n
  omega
theorem cts_sz {r : Nat → Prs Vc} (h : Psz r f n) : ∀ (m : Nat) (z z' : List VT × Nat) (i k : Nat), i ≤ n → smxL z.1 ≤ n → cts r m z f n i = .ok z' k → smxL z'.1 ≤ n
  | 0, z, z', i, k, hi, hz, h1 => by injection h1 with h1 _; subst h1; exact hz
  | m + 1, z, z', i, k, hi, hz, h1 => by
    obtain ⟨⟨t, c'⟩, j, e1, e2⟩ := bind_to h1
    obtain ⟨h2, h3⟩ := h hi e1
    refine cts_sz h m _ z' j k h3 ?_ e2
    show smxL (z.1 ++ [t]) ≤ n
    rw [smxL_app9]
    show max (smxL z.1) (max (smx t) 0) ≤ n
    omega
theorem lst_sz {r : Nat → Prs Vc} {w : Nat} {s : Hdr} {a : List VT × Nat} (hu : ∀ c, Und size (r c)) (h : Psz r f n) (hw : 1 ≤ w) (hi : i ≤ n) (h1 : lst size r w c s f n i = .ok a k) : smxL a.1 ≤ n := by
  unfold lst at h1
  split at h1
  · refine lp_inv6 (bdy_lst hu hw) (fun z _ => smxL z.1 ≤ n) (fun z _ => smxL z.1 ≤ n) (fun {z j z' l} hj ha h1 => ?_) (fun {z j z' l} hj ha h1 => ?_) hi (Nat.zero_le _) h1
    · rcases lsb_ok h1 with ⟨e, _⟩ | ⟨z2, e, h2⟩
      · cases e
      · injection e with e
        subst e
        exact cts_sz h w z _ j l hj ha h2
    · rcases lsb_ok h1 with ⟨e, _⟩ | ⟨z2, e, h2⟩
      · injection e with e
        subst e
        exact ha
      · cases e
  · obtain ⟨u, j2, d3, d4⟩ := bind_to h1
    obtain ⟨_, rfl⟩ := bnd_ok d3
    exact cts_sz h _ _ _ _ _ hi (Nat.zero_le _) d4
theorem smx_oth (s : Hdr) : smx (oth s) = 0 := by
  unfold oth
  repeat' split
  all_goals rfl
theorem itm_sz {d : Nat} {r : Nat → Prs Vc} (hu : ∀ c, Und size (r c)) (hr : Psz r f n) : Psz (itm size d r) f n := by
  intro c i t c' k hi h1
  refine ⟨?_, ((und_itm hu d c).dt.ok hi h1).2.1⟩
  have hlt : i < n := by
    rcases Nat.lt_or_ge i n with h | h
    · exact h
    · obtain rfl : i = n := by omega
      rw [itm_end] at h1; cases h1
  have hb : f i ≠ 255 := fun hb => by rw [itm_bad hlt hb] at h1; cases h1
  rw [itm_at hlt hb] at h1
  obtain ⟨s, j, e1, e2⟩ := bind_to h1
  have hjn := (hdr_ok e1).2.2.2.2.2.2.2.2.1
  unfold bod at e2
  by_cases M1 : s.M ≤ 1
  · rw [if_pos M1] at e2
    obtain ⟨_, ht, _⟩ := lef_ok e2
    injection ht with t1 _
    subst t1
    exact Nat.zero_le _
  rw [if_neg M1] at e2
  by_cases M3 : s.M ≤ 3
  · rw [if_pos M3] at e2
    obtain ⟨b, j2, e3, e4⟩ := bind_to e2
    have hk := ((dt_str size s).ok hjn e3).2.1
    have := str_sz hjn e3
    obtain ⟨_, ht, _⟩ := lef_ok e4
    injection ht with t1 _
    subst t1
    show max b.size 0 ≤ n
    omega
  rw [if_neg M3] at e2
  by_cases M5 : s.M ≤ 5
  · rw [if_pos M5] at e2
    obtain ⟨u, j2, e3, e4⟩ := bind_to e2
    obtain ⟨_, rfl⟩ := gate_ok e3
    obtain ⟨a, j3, e5, e6⟩ := bind_to e4
    injection e6 with e6 _
    injection e6 with t1 _
    subst t1
    have := lst_sz hu hr (show 1 ≤ s.M - 3 by omega) hjn e5
    show max 0 (smxL a.1) ≤ n
    omega
  rw [if_neg M5] at e2
  by_cases M6 : s.M = 6
  · rw [if_pos M6] at e2
    obtain ⟨u, j2, e3, e4⟩ := bind_to e2
    obtain ⟨_, rfl⟩ := gate_ok e3
    have hT : ∀ {t : VT} {c' k : Nat}, tgT r c s f n j2 = .ok (t, c') k → smx t ≤ n := fun {t c' k} h => by
      obtain ⟨⟨x, c2⟩, j3, e5, e6⟩ := bind_to h
      injection e6 with e6 _
      injection e6 with t1 _
      subst t1
      have := (hr hjn e5).1
      show max 0 (max (smx x) 0) ≤ n
      omega
    unfold tgd at e4
    by_cases h23 : s.v = 2 ∨ s.v = 3
    · rw [if_pos h23] at e4
      rcases bgo_ways size (fun b => ((.mk 5 (decide (s.v = 3)) 0 b [] : VT), c + 1)) (tgT r c s) f hjn with ⟨b, k', h0, hy, hs, he⟩ | ⟨he, _⟩
      · rw [he] at e4
        injection e4 with e4 _
        injection e4 with t1 _
        subst t1
        have := byi_sz hjn hy
        show max b.size 0 ≤ n
        omega
      · rw [he] at e4
        exact hT e4
    · rw [if_neg h23] at e4
      exact hT e4
  rw [if_neg M6] at e2
  obtain ⟨_, ht, _⟩ := lef_ok e2
  injection ht with t1 _
  subst t1
  rw [smx_oth]
  exact Nat.zero_le _
theorem rdI_sz : ∀ d, Psz (rdI size d) f n
  | 0 => itm_sz (fun _ => (und_byi size).ret_ _) rdz_sz
  | d + 1 => itm_sz (und_rdI size d) (rdI_sz d)
theorem dcR_smx (d : Nat) : smx (dcR d size f n).1 ≤ n := by
  cases h : rdI size d 0 f (min n size) 0 with
  | no q e => rw [dcR_no h]; exact Nat.zero_le _
  | ok a k =>
    have := (rdI_sz d (Nat.zero_le _) h).1
    rw [dcR_ok h]
    split
    · exact Nat.zero_le _
    · split
      · exact Nat.zero_le _
      · show smx a.1 ≤ n
        omega
end
end Go.Proofs.YtpcladdipgchbaaGreatDoor.nn
