/-
  The plain side of SortStableFunc's parts: a range exchanged, rotated, merged; a binary search. No model.
-/
import Derived.Sort.LotA
import Derived.Test.YtlkcnfkfccfhmaaRows0
namespace Go.Proofs.Ytlkcnfkfccfhmaa
open Go.Sort
set_option linter.unusedVariables false
section
variable {α : Type} [Inhabited α]

/-- n places from a on exchanged with those from b on. -/
def swr (d : Array α) (a b : Nat) : Nat → Array α
  | 0 => d
  | n + 1 => swp (swr d a b n) (a + n) (b + n)

theorem swr_size (d : Array α) (a b : Nat) : ∀ n, (swr d a b n).size = d.size
  | 0 => rfl
  | n + 1 => by rw [swr, size_swp, swr_size d a b n]

theorem swr_perm (d : Array α) (a b lo hi : Nat) (h : hi ≤ d.size) (h1 : lo ≤ a) (h2 : a ≤ b) : ∀ n, b + n ≤ hi → PermIn lo hi d (swr d a b n)
  | 0, _ => permIn_refl d lo hi
  | n + 1, hn => permIn_trans _ _ _ _ _ (swr_perm d a b lo hi h h1 h2 n (by omega)) (swp_permIn _ lo hi (a + n) (b + n) (by omega) (by omega) (by omega) (by omega) (by rw [swr_size]; exact h))

theorem swr_get (d : Array α) (a b : Nat) : ∀ n, a + n ≤ b → b + n ≤ d.size → ∀ x, (swr d a b n)[x]! = if a ≤ x ∧ x < a + n then d[x + (b - a)]! else if b ≤ x ∧ x < b + n then d[x - (b - a)]! else d[x]!
  | 0, _, _, x => by rw [if_neg (by omega), if_neg (by omega)]; rfl
  | n + 1, h1, h2, x => by
    have ih := swr_get d a b n (by omega) (by omega)
    rw [swr, swp_get _ (by rw [swr_size]; omega) (by rw [swr_size]; omega), ih, ih, ih]
    by_cases c1 : x = b + n
    · subst c1
      rw [if_pos rfl, if_neg (by omega), if_neg (by omega), if_neg (by omega), if_pos (by omega)]
      congr 1; omega
    · by_cases c2 : x = a + n
      · subst c2
        rw [if_neg c1, if_pos rfl, if_neg (by omega), if_neg (by omega), if_pos (by omega)]
        congr 1; omega
      · rw [if_neg c1, if_neg c2]
        by_cases c3 : a ≤ x ∧ x < a + n
        · rw [if_pos c3, if_pos (by omega)]
        · rw [if_neg c3, if_neg (c := a ≤ x ∧ x < a + (n + 1)) (by omega)]
          by_cases c4 : b ≤ x ∧ x < b + n
          · rw [if_pos c4, if_pos (by omega)]
          · rw [if_neg c4, if_neg (by omega)]

/-- What stands at x when [a, m) and [m, b) have changed places. -/
def rotAt (d : Array α) (a m b x : Nat) : α := if a ≤ x ∧ x < a + (b - m) then d[x + (m - a)]! else if a + (b - m) ≤ x ∧ x < b then d[x - (b - m)]! else d[x]!

structure Rot (d : Array α) (a m b : Nat) (d' : Array α) : Prop where
  perm : PermIn a b d d'
  get : ∀ x, d'[x]! = rotAt d a m b x

structure RotI (d : Array α) (a m b i j : Nat) (c : Array α) : Prop where
  i0 : 0 < i
  j0 : 0 < j
  im : i ≤ m - a
  jm : j ≤ b - m
  perm : PermIn a b d c
  get : ∀ x, rotAt d a m b x = if m - i ≤ x ∧ x < m - i + j then c[x + i]! else if m - i + j ≤ x ∧ x < m + j then c[x - j]! else c[x]!

theorem RotI.start (d : Array α) (a m b : Nat) (h1 : a < m) (h2 : m < b) : RotI d a m b (m - a) (b - m) d :=
  ⟨by omega, by omega, Nat.le_refl _, Nat.le_refl _, permIn_refl _ _ _, fun x => by
    have e : m - (m - a) = a := by omega
    rw [e, show m + (b - m) = b by omega]; rfl⟩

theorem RotI.left {d c : Array α} {a m b i j : Nat} (h : RotI d a m b i j c) (ha : a < m) (hm : m < b) (hb : b ≤ d.size) (hij : j < i) : RotI d a m b (i - j) j (swr c (m - i) m j) := by
  have hs : c.size = d.size := h.perm.1
  have h1 := h.im; have h2 := h.jm; have h3 := h.j0
  refine ⟨by omega, h.j0, by omega, h.jm, permIn_trans _ _ _ _ _ h.perm (swr_perm c (m - i) m a b (by omega) (by omega) (by omega) j (by omega)), fun x => ?_⟩
  have g := swr_get c (m - i) m j (by omega) (by omega)
  rw [h.get x, g, g, g, show m - (m - i) = i by omega]
  by_cases c1 : m - i ≤ x ∧ x < m - i + j
  · rw [if_pos c1, if_neg (by omega), if_neg (by omega), if_pos c1]
  · rw [if_neg c1]
    by_cases c2 : m - i + j ≤ x ∧ x < m + j
    · rw [if_pos c2]
      by_cases c3 : x < m - (i - j) + j
      · rw [if_pos (by omega), if_neg (by omega), if_pos (by omega)]; congr 1; omega
      · rw [if_neg (by omega), if_pos (by omega), if_neg (by omega), if_neg (by omega)]
    · rw [if_neg c2, if_neg (by omega), if_neg (by omega), if_neg (by omega), if_neg (by omega)]

theorem RotI.right {d c : Array α} {a m b i j : Nat} (h : RotI d a m b i j c) (ha : a < m) (hm : m < b) (hb : b ≤ d.size) (hij : i < j) : RotI d a m b i (j - i) (swr c (m - i) (m + j - i) i) := by
  have hs : c.size = d.size := h.perm.1
  have h1 := h.im; have h2 := h.jm; have h3 := h.i0
  refine ⟨h.i0, by omega, h.im, by omega, permIn_trans _ _ _ _ _ h.perm (swr_perm c (m - i) (m + j - i) a b (by omega) (by omega) (by omega) i (by omega)), fun x => ?_⟩
  have g := swr_get c (m - i) (m + j - i) i (by omega) (by omega)
  rw [h.get x, g, g, g, show m + j - i - (m - i) = j by omega]
  by_cases c1 : m - i ≤ x ∧ x < m - i + j
  · rw [if_pos c1]
    by_cases c3 : x < m - i + (j - i)
    · rw [if_pos (by omega), if_neg (by omega), if_neg (by omega)]
    · rw [if_neg (by omega), if_pos (by omega), if_pos (by omega)]; congr 1; omega
  · rw [if_neg c1]
    by_cases c2 : m - i + j ≤ x ∧ x < m + j
    · rw [if_pos c2, if_neg (by omega), if_neg (by omega), if_neg (by omega), if_pos (by omega)]
    · rw [if_neg c2, if_neg (by omega), if_neg (by omega), if_neg (by omega), if_neg (by omega)]

theorem RotI.done {d c : Array α} {a m b i : Nat} (h : RotI d a m b i i c) (ha : a < m) (hm : m < b) (hb : b ≤ d.size) : Rot d a m b (swr c (m - i) m i) := by
  have hs : c.size = d.size := h.perm.1
  have h1 := h.im; have h2 := h.jm; have h3 := h.i0
  refine ⟨permIn_trans _ _ _ _ _ h.perm (swr_perm c (m - i) m a b (by omega) (by omega) (by omega) i (by omega)), fun x => ?_⟩
  rw [swr_get c (m - i) m i (by omega) (by omega), h.get x, show m - (m - i) = i by omega]
  by_cases c1 : m - i ≤ x ∧ x < m - i + i
  · rw [if_pos c1, if_pos c1]
  · rw [if_neg c1, if_neg c1]
    by_cases c2 : m ≤ x ∧ x < m + i
    · rw [if_pos c2, if_pos (by omega)]
    · rw [if_neg c2, if_neg (by omega)]

/-! ### A binary search -/
/-- What holds up to i holds no more from j on; between is not asked yet. -/
structure Bsr (p : Nat → Bool) (lo hi i j : Nat) : Prop where
  li : lo ≤ i
  ij : i ≤ j
  jh : j ≤ hi
  yes : ∀ x, lo ≤ x → x < i → p x = true
  no : ∀ x, j ≤ x → x < hi → p x = false

theorem Bsr.start (p : Nat → Bool) (lo hi : Nat) (h : lo ≤ hi) : Bsr p lo hi lo hi := ⟨Nat.le_refl _, h, Nat.le_refl _, fun x h1 h2 => by omega, fun x h1 h2 => by omega⟩
theorem Bsr.up {p : Nat → Bool} {lo hi i j : Nat} (h : Bsr p lo hi i j) (mono : ∀ x y, lo ≤ x → x < y → y < hi → p y = true → p x = true) (t : Nat) (h1 : i ≤ t) (h2 : t < j) (ht : p t = true) : Bsr p lo hi (t + 1) j :=
  ⟨by have := h.li; omega, by omega, h.jh, fun x hx hx' => by
    by_cases e : x = t
    · rw [e]; exact ht
    · exact mono x t hx (by omega) (by have := h.jh; omega) ht, h.no⟩
theorem Bsr.down {p : Nat → Bool} {lo hi i j : Nat} (h : Bsr p lo hi i j) (mono : ∀ x y, lo ≤ x → x < y → y < hi → p y = true → p x = true) (t : Nat) (h1 : i ≤ t) (h2 : t < j) (ht : p t = false) : Bsr p lo hi i t :=
  ⟨h.li, h1, by have := h.jh; omega, h.yes, fun x hx hx' => by
    by_cases e : x = t
    · rw [e]; exact ht
    · cases hp : p x with
      | false => rfl
      | true => have := mono t x (by have := h.li; omega) (by omega) hx' hp; rw [ht] at this; cases this⟩

/-! ### One element carried up, or down -/
/-- d's element at a carried up to k. -/
def upTo (d : Array α) (a : Nat) : Nat → Array α
  | 0 => d
  | n + 1 => swp (upTo d a n) (a + n) (a + n + 1)
theorem upTo_size (d : Array α) (a : Nat) : ∀ n, (upTo d a n).size = d.size
  | 0 => rfl
  | n + 1 => by rw [upTo, size_swp, upTo_size d a n]
theorem upTo_perm (d : Array α) (a lo hi : Nat) (h : hi ≤ d.size) (h1 : lo ≤ a) : ∀ n, a + n < hi → PermIn lo hi d (upTo d a n)
  | 0, _ => permIn_refl d lo hi
  | n + 1, hn => permIn_trans _ _ _ _ _ (upTo_perm d a lo hi h h1 n (by omega)) (swp_permIn _ lo hi (a + n) (a + n + 1) (by omega) (by omega) (by omega) (by omega) (by rw [upTo_size]; exact h))
theorem upTo_get (d : Array α) (a : Nat) : ∀ n, a + n < d.size → ∀ x, (upTo d a n)[x]! = if a ≤ x ∧ x < a + n then d[x + 1]! else if x = a + n then d[a]! else d[x]!
  | 0, _, x => by
    rw [if_neg (by omega)]
    by_cases e : x = a + 0
    · rw [if_pos e, e]; rfl
    · rw [if_neg e]; rfl
  | n + 1, h, x => by
    have ih := upTo_get d a n (by omega)
    rw [upTo, swp_get _ (by rw [upTo_size]; omega) (by rw [upTo_size]; omega), ih, ih, ih]
    by_cases c1 : x = a + n + 1
    · subst c1
      rw [if_pos rfl, if_neg (by omega), if_pos rfl, if_neg (by omega), if_pos (by omega)]
    · rw [if_neg c1]
      by_cases c2 : x = a + n
      · subst c2
        rw [if_pos rfl, if_neg (by omega), if_neg (by omega), if_pos (by omega)]
      · rw [if_neg c2]
        by_cases c3 : a ≤ x ∧ x < a + n
        · rw [if_pos c3, if_pos (by omega)]
        · rw [if_neg c3, if_neg c2, if_neg (by omega), if_neg (by omega)]

/-- d's element at m carried n places down. -/
def downTo (d : Array α) (m : Nat) : Nat → Array α
  | 0 => d
  | n + 1 => swp (downTo d m n) (m - n) (m - n - 1)
theorem downTo_size (d : Array α) (m : Nat) : ∀ n, (downTo d m n).size = d.size
  | 0 => rfl
  | n + 1 => by rw [downTo, size_swp, downTo_size d m n]
theorem downTo_perm (d : Array α) (m lo hi : Nat) (h : hi ≤ d.size) (h1 : m < hi) : ∀ n, lo + n ≤ m → PermIn lo hi d (downTo d m n)
  | 0, _ => permIn_refl d lo hi
  | n + 1, hn => permIn_trans _ _ _ _ _ (downTo_perm d m lo hi h h1 n (by omega)) (swp_permIn _ lo hi (m - n) (m - n - 1) (by omega) (by omega) (by omega) (by omega) (by rw [downTo_size]; exact h))
theorem downTo_get (d : Array α) (m : Nat) (hm : m < d.size) : ∀ n, n ≤ m → ∀ x, (downTo d m n)[x]! = if m - n < x ∧ x ≤ m then d[x - 1]! else if x = m - n then d[m]! else d[x]!
  | 0, _, x => by
    rw [if_neg (by omega)]
    by_cases e : x = m - 0
    · rw [if_pos e, e]; rfl
    · rw [if_neg e]; rfl
  | n + 1, h, x => by
    have ih := downTo_get d m hm n (by omega)
    rw [downTo, swp_get _ (by rw [downTo_size]; omega) (by rw [downTo_size]; omega), ih, ih, ih]
    by_cases c1 : x = m - n - 1
    · subst c1
      rw [if_pos rfl, if_neg (by omega), if_pos rfl, if_neg (by omega), if_pos (by omega)]
    · rw [if_neg c1]
      by_cases c2 : x = m - n
      · subst c2
        rw [if_pos rfl, if_neg (by omega), if_neg (by omega), if_pos (by omega)]
      · rw [if_neg c2]
        by_cases c3 : m - n < x ∧ x ≤ m
        · rw [if_pos c3, if_pos (by omega)]
        · rw [if_neg c3, if_neg c2, if_neg (by omega), if_neg (by omega)]

/-! ### A merge -/
variable {lt : α → α → Bool}
def Merged (lt : α → α → Bool) (a b : Nat) (d d' : Array α) : Prop := PermIn a b d d' ∧ SortedIn lt a b d'

theorem merge_up (hO : SWO lt) {d : Array α} {a b i : Nat} (hb : b ≤ d.size) (hs : SortedIn lt (a + 1) b d) (h : Bsr (fun x => lt d[x]! d[a]!) (a + 1) b i i) : Merged lt a b d (upTo d a (i - 1 - a)) := by
  have h1 := h.li; have h2 := h.jh
  refine ⟨upTo_perm d a a b hb (Nat.le_refl _) _ (by omega), fun p q hp hpq hq => ?_⟩
  have g := upTo_get d a (i - 1 - a) (by omega)
  rw [g, g, show a + (i - 1 - a) = i - 1 by omega]
  by_cases c1 : q < i - 1
  · rw [if_pos (by omega), if_pos (by omega)]; exact hs _ _ (by omega) (by omega) (by omega)
  · rw [if_neg (c := a ≤ q ∧ q < i - 1) (by omega)]
    by_cases c2 : q = i - 1
    · rw [if_pos c2, if_pos (by omega)]
      exact hO.asymmA (h.yes (p + 1) (by omega) (by omega))
    · rw [if_neg c2]
      by_cases c3 : p < i - 1
      · rw [if_pos (by omega)]; exact hs _ _ (by omega) (by omega) (by omega)
      · rw [if_neg (by omega)]
        by_cases c4 : p = i - 1
        · rw [if_pos c4]; exact h.no q (by omega) hq
        · rw [if_neg c4]; exact hs _ _ (by omega) (by omega) (by omega)

theorem up_mono (hO : SWO lt) {d : Array α} {a b : Nat} (hs : SortedIn lt (a + 1) b d) (x y : Nat) (h1 : a + 1 ≤ x) (h2 : x < y) (h3 : y < b) (h : lt d[y]! d[a]! = true) : lt d[x]! d[a]! = true := by
  cases hp : lt d[x]! d[a]! with
  | true => rfl
  | false => have := hO.ntrans _ _ _ (hs x y h1 h2 h3) hp; rw [h] at this; cases this

theorem merge_down (hO : SWO lt) {d : Array α} {a m i : Nat} (hb : m < d.size) (hs : SortedIn lt a m d) (h : Bsr (fun x => !lt d[m]! d[x]!) a m i i) : Merged lt a (m + 1) d (downTo d m (m - i)) := by
  have h1 := h.li; have h2 := h.jh
  refine ⟨downTo_perm d m a (m + 1) (by omega) (by omega) _ (by omega), fun p q hp hpq hq => ?_⟩
  have g := downTo_get d m hb (m - i) (by omega)
  rw [g, g, show m - (m - i) = i by omega]
  by_cases c1 : i < p
  · rw [if_pos (by omega), if_pos (by omega)]; exact hs _ _ (by omega) (by omega) (by omega)
  · rw [if_neg (c := i < p ∧ p ≤ m) (by omega)]
    by_cases c2 : p = i
    · rw [if_pos c2, if_pos (by omega)]
      have := h.no (q - 1) (by omega) (by omega)
      simp only [Bool.not_eq_false'] at this
      exact hO.asymmA this
    · rw [if_neg c2]
      by_cases c3 : i < q
      · rw [if_pos (by omega)]
        by_cases e : p = q - 1
        · omega
        · exact hs _ _ (by omega) (by omega) (by omega)
      · rw [if_neg (by omega)]
        by_cases c4 : q = i
        · rw [if_pos c4]
          have := h.yes p hp (by omega)
          simpa using this
        · rw [if_neg c4]; exact hs _ _ (by omega) (by omega) (by omega)

theorem down_mono (hO : SWO lt) {d : Array α} {a m : Nat} (hs : SortedIn lt a m d) (x y : Nat) (h1 : a ≤ x) (h2 : x < y) (h3 : y < m) (h : (!lt d[m]! d[y]!) = true) : (!lt d[m]! d[x]!) = true := by
  have h' : lt d[m]! d[y]! = false := by simpa using h
  have := hO.ntrans _ _ _ h' (hs x y h1 h2 h3)
  simp [this]

/-- The search of the third way: p - x is the place against x. -/
theorem sym_mono (hO : SWO lt) {d : Array α} {a m b p lo hi : Nat} (hs1 : SortedIn lt a m d) (hs2 : SortedIn lt m b d) (hlo : a ≤ lo) (hhi : hi ≤ m) (hp1 : ∀ x, lo ≤ x → x < hi → m ≤ p - x ∧ p - x < b ∧ x ≤ p)
    (x y : Nat) (h1 : lo ≤ x) (h2 : x < y) (h3 : y < hi) (h : (!lt d[p - y]! d[y]!) = true) : (!lt d[p - x]! d[x]!) = true := by
  have h' : lt d[p - y]! d[y]! = false := by simpa using h
  have hx := hp1 x h1 (by omega)
  have hy := hp1 y (by omega) h3
  have e1 : lt d[p - x]! d[p - y]! = false := hs2 _ _ hy.1 (by omega) hx.2.1
  have e2 := hs1 x y (by omega) h2 (by omega)
  have := hO.ntrans _ _ _ (hO.ntrans _ _ _ e1 h') e2
  simp [this]

/-- What the two halves are when the search has ended and the middle is rotated: each of two sorted rows, and nothing of the second ahead of the first. -/
structure Halves (lt : α → α → Bool) (a s mid e b : Nat) (d d' : Array α) : Prop where
  perm : PermIn a b d d'
  l1 : SortedIn lt a s d'
  l2 : SortedIn lt s mid d'
  r1 : SortedIn lt mid e d'
  r2 : SortedIn lt e b d'
  cross : ∀ x y, a ≤ x → x < mid → mid ≤ y → y < b → lt d'[y]! d'[x]! = false

theorem rotAt_none {d : Array α} {s m e : Nat} (h : ¬ (s < m ∧ m < e)) (h1 : s ≤ m) (h2 : m ≤ e) (x : Nat) : d[x]! = rotAt d s m e x := by
  unfold rotAt
  by_cases c : s = m
  · subst c
    by_cases c1 : s ≤ x ∧ x < s + (e - s)
    · rw [if_pos c1]; congr 1; omega
    · rw [if_neg c1, if_neg (by omega)]
  · have : e = m := by omega
    subst this
    rw [if_neg (by omega)]
    by_cases c1 : s + (e - e) ≤ x ∧ x < e
    · rw [if_pos c1]; congr 1; omega
    · rw [if_neg c1]

theorem halves (hO : SWO lt) {d d' : Array α} {a m b mid lo hi s : Nat} (hmid : mid = (a + b) / 2) (h0 : a < m) (h1 : m < b) (hb : b ≤ d.size) (hs1 : SortedIn lt a m d) (hs2 : SortedIn lt m b d)
    (hlo : lo = if mid < m then mid + m - b else a) (hhi : hi = if mid < m then mid else m)
    (h : Bsr (fun x => !lt d[mid + m - 1 - x]! d[x]!) lo hi s s) (hr : ∀ x, d'[x]! = rotAt d s m (mid + m - s) x) (hp : PermIn a b d d') : Halves lt a s mid (mid + m - s) b d d' := by
  have g1 := h.li; have g2 := h.jh
  obtain ⟨has, hsm, hsd, heb, hme⟩ : a ≤ s ∧ s ≤ m ∧ s ≤ mid ∧ mid + m - s ≤ b ∧ m ≤ mid + m - s := by
    by_cases c : mid < m
    · rw [if_pos c] at hlo hhi; omega
    · rw [if_neg c] at hlo hhi; omega
  have r : ∀ x, d'[x]! = if s ≤ x ∧ x < mid then d[x + (m - s)]! else if mid ≤ x ∧ x < mid + m - s then d[x - (mid - s)]! else d[x]! := fun x => by
    rw [hr x]; unfold rotAt
    rw [show s + (mid + m - s - m) = mid by omega, show mid + m - s - m = mid - s by omega]
  have le2 : ∀ p q, m ≤ p → p ≤ q → q < b → lt d[q]! d[p]! = false := fun p q h1 h2 h3 => by
    by_cases e : p = q
    · rw [e]; exact hO.irrefl _
    · exact hs2 p q h1 (by omega) h3
  have le1 : ∀ p q, a ≤ p → p ≤ q → q < m → lt d[q]! d[p]! = false := fun p q h1 h2 h3 => by
    by_cases e : p = q
    · rw [e]; exact hO.irrefl _
    · exact hs1 p q h1 (by omega) h3
  refine ⟨hp, fun p q h1 h2 h3 => ?_, fun p q h1 h2 h3 => ?_, fun p q h1 h2 h3 => ?_, fun p q h1 h2 h3 => ?_, fun x y h1 h2 h3 h4 => ?_⟩
  · rw [r, r, if_neg (by omega), if_neg (by omega), if_neg (by omega), if_neg (by omega)]; exact hs1 _ _ (by omega) (by omega) (by omega)
  · rw [r, r, if_pos (by omega), if_pos (by omega)]; exact hs2 _ _ (by omega) (by omega) (by omega)
  · rw [r, r, if_neg (by omega), if_pos (by omega), if_neg (by omega), if_pos (by omega)]; exact hs1 _ _ (by omega) (by omega) (by omega)
  · rw [r, r, if_neg (by omega), if_neg (by omega), if_neg (by omega), if_neg (by omega)]; exact hs2 _ _ (by omega) (by omega) (by omega)
  · rw [r y, if_neg (by omega), r x]
    by_cases cx : x < s
    · rw [if_neg (c := s ≤ x ∧ x < mid) (by omega), if_neg (c := mid ≤ x ∧ x < mid + m - s) (by omega)]
      by_cases cy : y < mid + m - s
      · rw [if_pos (by omega)]; exact hs1 _ _ (by omega) (by omega) (by omega)
      · rw [if_neg (by omega)]
        have hlt : lo < s := by
          by_cases c : mid < m
          · rw [if_pos c] at hlo; omega
          · rw [if_neg c] at hlo; omega
        have y1 := h.yes (s - 1) (by omega) (by omega)
        simp only [Bool.not_eq_true'] at y1
        rw [show mid + m - 1 - (s - 1) = mid + m - s by omega] at y1
        exact hO.ntrans _ _ _ (hO.ntrans _ _ _ (le2 _ y hme (by omega) h4) y1) (le1 x (s - 1) h1 (by omega) (by omega))
    · rw [if_pos (c := s ≤ x ∧ x < mid) (by omega)]
      by_cases cy : y < mid + m - s
      · rw [if_pos (by omega)]
        have hlt : s < hi := by
          by_cases c : mid < m
          · rw [if_pos c] at hhi; omega
          · rw [if_neg c] at hhi; omega
        have y1 := h.no s (by omega) (by omega)
        simp only [Bool.not_eq_false'] at y1
        cases hc : lt d[y - (mid - s)]! d[x + (m - s)]! with
        | false => rfl
        | true =>
          have e1 := hO.ntrans _ _ _ (hO.ntrans _ _ _ (le2 (x + (m - s)) (mid + m - 1 - s) (by omega) (by omega) (by omega)) (hO.asymmA hc)) (le1 s (y - (mid - s)) (by omega) (by omega) (by omega))
          rw [y1] at e1; cases e1
      · rw [if_neg (by omega)]; exact le2 _ _ (by omega) (by omega) h4

theorem sorted_congr {d d' : Array α} {a b : Nat} (h : SortedIn lt a b d) (he : ∀ x, a ≤ x → x < b → d'[x]! = d[x]!) : SortedIn lt a b d' := fun p q h1 h2 h3 => by
  rw [he p h1 (by omega), he q (by omega) h3]; exact h p q h1 h2 h3

/-- The first half merged, the second one still two sorted rows. -/
structure Half (lt : α → α → Bool) (a mid e b : Nat) (d d' : Array α) : Prop where
  perm : PermIn a b d d'
  l : SortedIn lt a mid d'
  r1 : SortedIn lt mid e d'
  r2 : SortedIn lt e b d'
  cross : ∀ x y, a ≤ x → x < mid → mid ≤ y → y < b → lt d'[y]! d'[x]! = false

theorem Halves.first {a s mid e b : Nat} {d d' d1 : Array α} (h : Halves lt a s mid e b d d') (hm : a ≤ mid) (hmb : mid ≤ b) (hme : mid ≤ e) (hb : b ≤ d.size) (h1 : Merged lt a mid d' d1) : Half lt a mid e b d d1 := by
  have hs : d'.size = d.size := h.perm.1
  have hk : ∀ x, mid ≤ x → d1[x]! = d'[x]! := fun x hx => h1.1.2.1 x (Or.inr hx)
  refine ⟨permIn_trans _ _ _ _ _ h.perm (permIn_mono _ _ _ _ _ _ (Nat.le_refl _) hmb (by omega) h1.1), h1.2, sorted_congr h.r1 fun x h2 _ => hk x h2, sorted_congr h.r2 fun x h2 _ => hk x (by omega), fun x y h2 h3 h4 h5 => ?_⟩
  rw [hk y h4]
  exact permIn_all d' d1 a mid (fun v => lt d'[y]! v = false) (by omega) h1.1 (fun i hi hi' => h.cross i y hi hi' h4 h5) x h2 h3

/-- Nothing to merge in the first half. -/
theorem Halves.skip {a s mid e b : Nat} {d d' : Array α} (h : Halves lt a s mid e b d d') (has : a ≤ s) (hsm : s ≤ mid) (hn : ¬ (a < s ∧ s < mid)) : Merged lt a mid d' d' := by
  refine ⟨permIn_refl _ _ _, ?_⟩
  by_cases c : s = mid
  · rw [← c]; exact h.l1
  · have : a = s := by omega
    rw [this]; exact h.l2

theorem Half.last {a mid e b : Nat} {d d1 d2 : Array α} (h : Half lt a mid e b d d1) (hm : a ≤ mid) (hmb : mid ≤ b) (hb : b ≤ d.size) (h2 : Merged lt mid b d1 d2) : Merged lt a b d d2 := by
  have hs : d1.size = d.size := h.perm.1
  have hk : ∀ x, x < mid → d2[x]! = d1[x]! := fun x hx => h2.1.2.1 x (Or.inl hx)
  refine ⟨permIn_trans _ _ _ _ _ h.perm (permIn_mono _ _ _ _ _ _ hm (Nat.le_refl _) (by omega) h2.1), fun p q hp hpq hq => ?_⟩
  by_cases cq : q < mid
  · rw [hk p (by omega), hk q cq]; exact h.l p q hp hpq cq
  · by_cases cp : p < mid
    · rw [hk p cp]
      exact permIn_all d1 d2 mid b (fun v => lt v d1[p]! = false) (by omega) h2.1 (fun i hi hi' => h.cross p i hp cp hi hi') q (by omega) hq
    · exact h2.2 p q (by omega) hpq hq

theorem Half.skip {a mid e b : Nat} {d d1 : Array α} (h : Half lt a mid e b d d1) (hme : mid ≤ e) (heb : e ≤ b) (hn : ¬ (mid < e ∧ e < b)) : Merged lt mid b d1 d1 := by
  refine ⟨permIn_refl _ _ _, ?_⟩
  by_cases c : mid = e
  · rw [c]; exact h.r2
  · have : e = b := by omega
    rw [← this]; exact h.r1
end
end Go.Proofs.Ytlkcnfkfccfhmaa
