/-
  Plain mathematics: bytes that are cut off are decoded as they were, but for the last code point.
-/
import Derived.Test.YtdjhgjnhfmggjaaDoorS1Back
namespace Go.Proofs.YtdjhgjnhfmggjaaDoor.S1
open Go.RowKit
set_option linter.unusedVariables false

theorem unD_ok {x : List Int} (h1 : 1 ≤ x.length) (h : (unD x).bad = false) : x = encR (unD x).r ++ x.drop (unD x).w ∧ isR (unD x).r = true ∧ (encR (unD x).r).length = (unD x).w := by
  have := unD_good h1 h
  refine ⟨by rw [this.2.1, List.take_append_drop], this.1, ?_⟩
  rw [this.2.1, List.length_take]; omega

theorem unD_eq_bad {x : List Int} (h : (unD x).bad = true) : unD x = ⟨65533, 1, true⟩ := by
  have := unD_bad h
  cases hx : unD x with
  | mk r w b => rw [hx] at this h; simp only at this h; rw [this.1, this.2, h]

theorem unD_take {x : List Int} {m : Nat} (hm : 1 ≤ m) (hx : m ≤ x.length) (hw : (unD x).w ≤ m) : unD (x.take m) = unD x := by
  have hl : 1 ≤ (x.take m).length := by rw [List.length_take]; omega
  cases hb : (unD x).bad with
  | false =>
    obtain ⟨e, hr, hlen⟩ := unD_ok (by omega) hb
    have e2 : x.take m = encR (unD x).r ++ (x.drop (unD x).w).take (m - (unD x).w) := by
      conv => lhs; rw [e]
      rw [List.take_append, hlen, List.take_of_length_le (by omega)]
    rw [e2, unD_enc _ hr]
    cases hu : unD x with
    | mk r w b => rw [hu] at hb hlen; simp only at hb hlen ⊢; rw [hlen, hb]
  | true =>
    cases hb2 : (unD (x.take m)).bad with
    | true => rw [unD_eq_bad hb, unD_eq_bad hb2]
    | false =>
      obtain ⟨e, hr, hlen⟩ := unD_ok hl hb2
      have e2 : x = encR (unD (x.take m)).r ++ ((x.take m).drop (unD (x.take m)).w ++ x.drop m) := by
        rw [← List.append_assoc, ← e, List.take_append_drop]
      have := unD_enc (unD (x.take m)).r hr ((x.take m).drop (unD (x.take m)).w ++ x.drop m)
      rw [← e2] at this
      rw [this] at hb
      cases hb

theorem unitAt_take {l : List Int} {n p : Nat} (hp : p < n) (hn : n ≤ l.length) (hw : p + (unitAt l p).w ≤ n) : unitAt (l.take n) p = unitAt l p := by
  have e : (l.take n).drop p = (l.drop p).take (n - p) := by rw [List.drop_take]
  have hw' : p + (unD (l.drop p)).w ≤ n := hw
  have := unD_take (x := l.drop p) (m := n - p) (by omega) (by rw [List.length_drop]; omega) (by omega)
  unfold unitAt
  rw [e, this]

theorem Run.cut {l : List Int} {n : Nat} (hn : n ≤ l.length) : ∀ {us vs : List U} {p : Nat}, Run l p us l.length → Run (l.take n) p vs n → p ≤ n → ∀ k, (h : k < us.length) → us[k].p + us[k].w ≤ n → ∃ h2 : k < vs.length, vs[k] = us[k]
  | [], vs, p, hu, hv, hp, k, h, _ => by simp at h
  | u :: us, vs, p, hu, hv, hp, k, h, hk => by
    have hup : u.p = p := by rw [hu.2.1]; rfl
    have huw := unitAt_w hu.1
    rw [← hu.2.1] at huw
    have hle : u.p + u.w ≤ n := by
      match k, h, hk with
      | 0, _, hk => exact hk
      | k + 1, h, hk =>
        have hm : ∀ {us : List U} {p q : Nat}, Run l p us q → ∀ x ∈ us, p ≤ x.p := by
          intro us
          induction us with
          | nil => intro p q _ x hx; cases hx
          | cons y ys ih =>
            intro p q h x hx
            rcases List.mem_cons.1 hx with e | e
            · rw [e, h.2.1]; exact Nat.le_refl _
            · have := ih h.2.2 x e; omega
        have hk' : k < us.length := by simpa using h
        have := hm hu.2.2 us[k] (List.getElem_mem hk')
        simp only [List.getElem_cons_succ] at hk
        omega
    have hlen : (l.take n).length = n := by rw [List.length_take]; omega
    match vs, hv with
    | [], hv =>
      have : p = n := hv
      omega
    | v :: vs, hv =>
      have ev : v = u := by rw [hv.2.1, hu.2.1]; exact unitAt_take (by omega) hn (by rw [← hu.2.1]; omega)
      match k, h, hk with
      | 0, _, _ => exact ⟨by simp, ev⟩
      | k + 1, h, hk =>
        have hv2 := hv.2.2
        rw [ev] at hv2
        obtain ⟨h2, e⟩ := Run.cut hn hu.2.2 hv2 (by omega) k (by simpa using h) (by simpa using hk)
        exact ⟨by simp; omega, by simpa using e⟩

theorem Run.cut_len {l : List Int} {n : Nat} (hn : n ≤ l.length) : ∀ {us vs : List U} {p : Nat}, Run l p us l.length → Run (l.take n) p vs n → p ≤ n → ∀ k, k ≤ us.length → (∀ i, (h : i < us.length) → i < k → us[i].p + us[i].w ≤ n) → (∀ h : k < us.length, n < us[k].p + us[k].w) → k ≤ vs.length ∧ vs.length ≤ k + 3
  | us, vs, p, hu, hv, hp, 0, hk, _, hs => by
    have hlen : (l.take n).length = n := by rw [List.length_take]; omega
    have hle := Run.le hv (by omega)
    match us, hu, hs with
    | [], hu, _ =>
      have : p = l.length := hu
      omega
    | u :: us, hu, hs =>
      have hup : u.p = p := by rw [hu.2.1]; rfl
      have huw := unitAt_w hu.1
      rw [← hu.2.1] at huw
      have := hs (by simp)
      simp only [List.getElem_cons_zero] at this
      omega
  | [], vs, p, hu, hv, hp, k + 1, hk, _, _ => by simp at hk
  | u :: us, vs, p, hu, hv, hp, k + 1, hk, ha, hs => by
    have hup : u.p = p := by rw [hu.2.1]; rfl
    have hle := ha 0 (by simp) (by omega)
    simp only [List.getElem_cons_zero] at hle
    have huw := unitAt_w hu.1
    rw [← hu.2.1] at huw
    match vs, hv with
    | [], hv =>
      have : p = n := hv
      omega
    | v :: vs, hv =>
      have ev : v = u := by rw [hv.2.1, hu.2.1]; exact unitAt_take (by omega) hn (by rw [← hu.2.1]; omega)
      have hv2 := hv.2.2
      rw [ev] at hv2
      have := Run.cut_len hn hu.2.2 hv2 (by omega) k (by simpa using hk) (fun i h q => by have := ha (i + 1) (by simpa using h) (by omega); simpa using this) (fun h => by have := hs (by simpa using h); simpa using this)
      simp only [List.length_cons]
      omega
end Go.Proofs.YtdjhgjnhfmggjaaDoor.S1
